/-
  Layer 15: values without their lowest planes have the same passes above them.
-/
import Derived.Test.YtbhjapgioaiocaaDoorMb
set_option maxRecDepth 100000
namespace Go.Proofs.YtbhjapgioaiocaaDoor
open Go.RowKit

def keptM (v : Int) (k : Nat) : Int := if v < 0 then -((v.natAbs / 2 ^ k * 2 ^ k : Nat) : Int) else ((v.natAbs / 2 ^ k * 2 ^ k : Nat) : Int)
theorem kept_abs (v : Int) (k : Nat) : (keptM v k).natAbs = v.natAbs / 2 ^ k * 2 ^ k := by unfold keptM; split <;> omega
theorem kept_bit (v : Int) (k s : Nat) (h : k ≤ s) : bitM (keptM v k) s = bitM v s := by
  unfold bitM
  rw [kept_abs]
  obtain ⟨d, rfl⟩ : ∃ d, s = k + d := ⟨s - k, by omega⟩
  rw [Nat.pow_add, ← Nat.div_div_eq_div_mul, ← Nat.div_div_eq_div_mul, Nat.mul_div_cancel _ (Nat.two_pow_pos k)]
theorem bit_one (v : Int) (k s : Nat) (h : k ≤ s) (hb : bitM v s = 1) : 2 ^ k ≤ v.natAbs := by
  unfold bitM at hb
  have h1 : 2 ^ k ≤ 2 ^ s := Nat.pow_le_pow_right (by decide) h
  rcases Nat.lt_or_ge v.natAbs (2 ^ s) with h2 | h2
  · rw [Nat.div_eq_of_lt h2] at hb
    simp at hb
  · omega
theorem kept_neg (v : Int) (k : Nat) (h : 2 ^ k ≤ v.natAbs) : (keptM v k < 0) = (v < 0) := by
  have h1 : 0 < v.natAbs / 2 ^ k := Nat.div_pos h (Nat.two_pow_pos k)
  have h2 : 0 < v.natAbs / 2 ^ k * 2 ^ k := Nat.mul_pos h1 (Nat.two_pow_pos k)
  unfold keptM
  apply propext
  split <;> omega
/-- Equal flags; values without their lowest planes. -/
structure Rl (k : Nat) (q q' : St) : Prop where
  s : q'.s = q.s
  t : q'.t = q.t
  r : q'.r = q.r
  v : ∀ x y, q'.v x y = keptM (q.v x y) k
  g : ∀ x y, q.s x y = true → 2 ^ k ≤ (q.v x y).natAbs
structure Re (k : Nat) (e e' : Es) : Prop where
  st : Rl k e.1 e'.1
  l : e'.2 = e.2
section
variable {k : Nat} {q q' : St} {p : Pp} {e e' : Es}
theorem Rl.cn (h : Rl k q q') (x y : Int) : cn q' x y = cn q x y := by unfold Go.Proofs.YtbhjapgioaiocaaDoor.cn; rw [h.s]
theorem Rl.sg (h : Rl k q q') (x y : Int) : sg q' x y = sg q x y := by
  unfold Go.Proofs.YtbhjapgioaiocaaDoor.sg
  rw [h.s, h.v]
  by_cases hs : q.s x y = true
  · rw [if_pos hs, if_pos hs]
    have := kept_neg (q.v x y) k (h.g x y hs)
    simp only [this]
  · rw [if_neg hs, if_neg hs]
theorem Rl.nH (h : Rl k q q') (x y : Int) : nbH q' x y = nbH q x y := by unfold nbH; rw [h.cn, h.cn]
theorem Rl.nV (h : Rl k q q') (x y : Int) (c : Bool) : nbV q' x y c = nbV q x y c := by unfold nbV; rw [h.cn, h.cn]
theorem Rl.nD (h : Rl k q q') (x y : Int) (c : Bool) : nbD q' x y c = nbD q x y c := by unfold nbD; rw [h.cn, h.cn, h.cn, h.cn]
theorem Rl.near (h : Rl k q q') (x y : Int) : nearQ p q' x y = nearQ p q x y := by unfold nearQ; rw [h.nH, h.nV, h.nD]
theorem Rl.sC (h : Rl k q q') (x y : Int) : sgnC p q' x y = sgnC p q x y := by unfold sgnC sgH sgV; rw [h.sg, h.sg, h.sg, h.sg]
theorem Rl.sF (h : Rl k q q') (x y : Int) : sgnF p q' x y = sgnF p q x y := by unfold sgnF sgH sgV; rw [h.sg, h.sg, h.sg, h.sg]
theorem Rl.zC (h : Rl k q q') (x y : Int) : sigC p q' x y = sigC p q x y := by unfold sigC; rw [h.nH, h.nV, h.nD]
theorem Rl.rC (h : Rl k q q') (x y : Int) : refC p q' x y = refC p q x y := by unfold refC; rw [h.r, h.near]
theorem Rl.bit (h : Rl k q q') (hs : k ≤ p.s) (x y : Int) : bitM (q'.v x y) p.s = bitM (q.v x y) p.s := by rw [h.v, kept_bit _ _ _ hs]
theorem Rl.mark (h : Rl k q q') (w hh : Nat) (x y : Int) (hg : 2 ^ k ≤ (q.v x y).natAbs) : Rl k (markQ w hh q x y) (markQ w hh q' x y) := by
  unfold markQ
  by_cases hi : inB w hh x y
  · rw [if_pos hi, if_pos hi]
    refine ⟨by show upd _ _ _ _ = upd _ _ _ _; rw [h.s], h.t, h.r, h.v, fun X Y hX => ?_⟩
    by_cases he : X = x ∧ Y = y
    · obtain ⟨rfl, rfl⟩ := he
      exact hg
    · have : upd q.s x y true X Y = true := hX
      rw [upd_far _ _ _ _ _ _ he] at this
      exact h.g X Y this
  · rw [if_neg hi, if_neg hi]
    exact h
theorem Rl.touch (h : Rl k q q') (w hh : Nat) (x y : Int) (b : Bool) : Rl k (touchQ w hh q x y b) (touchQ w hh q' x y b) := by
  unfold touchQ
  by_cases hi : inB w hh x y
  · rw [if_pos hi, if_pos hi]
    exact ⟨h.s, by show upd _ _ _ _ = upd _ _ _ _; rw [h.t], h.r, h.v, h.g⟩
  · rw [if_neg hi, if_neg hi]
    exact h
theorem Rl.refine (h : Rl k q q') (w hh : Nat) (x y : Int) : Rl k (refineQ w hh q x y) (refineQ w hh q' x y) := by
  unfold refineQ
  by_cases hi : inB w hh x y
  · rw [if_pos hi, if_pos hi]
    exact ⟨h.s, h.t, by show upd _ _ _ _ = upd _ _ _ _; rw [h.r], h.v, h.g⟩
  · rw [if_neg hi, if_neg hi]
    exact h
theorem Re.put (h : Re k e e') (c b : Int) : Re k (putS p e c b) (putS p e' c b) := ⟨h.st, by show _ ++ _ = _ ++ _; rw [h.l]⟩
theorem Re.sign (h : Re k e e') (x y : Int) (hg : 2 ^ k ≤ (e.1.v x y).natAbs) : Re k (signS p e x y) (signS p e' x y) := by
  refine ⟨h.st.mark _ _ _ _ hg, ?_⟩
  have hn : negM (e'.1.v x y) = negM (e.1.v x y) := by unfold negM; rw [h.st.v]; simp only [kept_neg _ _ hg]
  show _ ++ _ = _ ++ _
  rw [h.l, h.st.sC, h.st.sF, hn]
theorem Re.code (h : Re k e e') (hs : k ≤ p.s) (x y : Int) : Re k (codeS p e x y) (codeS p e' x y) := by
  unfold codeS
  rw [h.st.bit hs, h.st.zC]
  split
  · rename_i hb
    exact (h.put _ _).sign x y (bit_one _ _ _ hs hb)
  · exact h.put _ _
theorem Re.touch (h : Re k e e') (x y : Int) (b : Bool) : Re k (touchS p e x y b) (touchS p e' x y b) := ⟨h.st.touch _ _ _ _ _, h.l⟩
theorem Re.refn (h : Re k e e') (x y : Int) : Re k (refnS p e x y) (refnS p e' x y) := ⟨h.st.refine _ _ _ _, h.l⟩
theorem Re.sig (h : Re k e e') (hs : k ≤ p.s) (z : Int × Int) : Re k (sigS p e z) (sigS p e' z) := by
  unfold sigS
  rw [h.st.s, h.st.near]
  split
  · exact (h.code hs _ _).touch _ _ _
  · exact h
theorem Re.ref (h : Re k e e') (hs : k ≤ p.s) (z : Int × Int) : Re k (refS p e z) (refS p e' z) := by
  unfold refS
  rw [h.st.s, h.st.t, h.st.rC, h.st.bit hs]
  split
  · exact ((h.put _ _).refn _ _).touch _ _ _
  · exact h
theorem Re.cln (h : Re k e e') (hs : k ≤ p.s) (z : Int × Int) : Re k (clnS p e z) (clnS p e' z) := by
  unfold clnS
  rw [h.st.s, h.st.t]
  split
  · exact h
  · exact h.code hs _ _
theorem Re.fold {α : Type} (f : Es → α → Es) (hf : ∀ e e' z, Re k e e' → Re k (f e z) (f e' z)) (l : List α) : ∀ e e' : Es, Re k e e' → Re k (l.foldl f e) (l.foldl f e') := by
  induction l with
  | nil => exact fun e e' h => h
  | cons a l ih => exact fun e e' h => ih _ _ (hf e e' a h)
theorem Rl.quiet (h : Rl k q q') (x top n : Nat) : quietQ p q' x top n = quietQ p q x top n := by
  unfold quietQ busyQ
  rw [h.s, h.t]
  simp only [h.near]
theorem Rl.zer (h : Rl k q q') (hs : k ≤ p.s) (x top : Nat) : zerQ p q' x top = zerQ p q x top := by
  unfold zerQ
  have : oneQ p q' x top = oneQ p q x top := by
    funext j
    unfold oneQ
    rw [h.bit hs]
  rw [this]
theorem Re.run (h : Re k e e') (hs : k ≤ p.s) (x top : Nat) : Re k (runS p e x top) (runS p e' x top) := by
  unfold runS
  rw [h.st.zer hs]
  split
  · exact h.put _ _
  · rename_i hz
    refine (((h.put _ _).put _ _).put _ _).sign _ _ ?_
    have : oneQ p e.1 x top (zerQ p e.1 x top) = true := by
      unfold zerQ Go.Proofs.YtbhjapgioaiocaaDoor.zer at *
      repeat' split
      all_goals simp_all
    unfold oneQ at this
    exact bit_one _ _ _ hs (show bitM (e.1.v (x : Int) ((top + zerQ p e.1 x top : Nat) : Int)) p.s = 1 from by simpa using this)
theorem Re.col (h : Re k e e') (hs : k ≤ p.s) (x top n : Nat) : Re k (colS p e x top n) (colS p e' x top n) := by
  unfold colS runN
  rw [h.st.quiet, h.st.zer hs]
  split
  · exact Re.fold _ (fun _ _ z h => h.cln hs z) _ _ _ (h.run hs _ _)
  · exact Re.fold _ (fun _ _ z h => h.cln hs z) _ _ _ h
theorem Re.str (h : Re k e e') (hs : k ≤ p.s) (top n m : Nat) : Re k (strS p e top n m) (strS p e' top n m) := Re.fold (fun e x => colS p e x top n) (fun _ _ x h => h.col hs x top n) _ _ _ h
theorem Re.cl (h : Re k e e') (hs : k ≤ p.s) (n : Nat) : Re k (clS p e n) (clS p e' n) := Re.fold (fun e s => strS p e (4 * s) (min 4 (p.h - 4 * s)) p.w) (fun _ _ s h => h.str hs (4 * s) (min 4 (p.h - 4 * s)) p.w) _ _ _ h
theorem Re.off (h : Re k e e') (l : List (Int × Int)) : Re k (offS p e l) (offS p e' l) := Re.fold (fun (e : Es) (z : Int × Int) => touchS p e z.1 z.2 false) (fun _ _ z h => h.touch z.1 z.2 false) _ _ _ h
theorem Re.pass (h : Re k e e') (hs : k ≤ p.s) (n : Int) (y : Bool) : Re k (passS p n y e) (passS p n y e') := by
  unfold passS
  split
  · exact Re.fold _ (fun _ _ z h => h.sig hs z) _ _ _ h
  split
  · exact Re.fold _ (fun _ _ z h => h.ref hs z) _ _ _ h
  · unfold cleanS endS chkS
    have h1 := (h.cl hs ((p.h + 3) / 4)).off (p := p) (scan p.w p.h)
    split
    · exact (((h1.put _ _).put _ _).put _ _).put _ _
    · exact h1
end
theorem Rl.set {k : Nat} {q q' : St} (h : Rl k q q') (w hh : Nat) (x y v : Int) (hv : okV v) (hq : q.s = fun _ _ => false) : Rl k (setQ w hh q x y v) (setQ w hh q' x y (keptM v k)) := by
  have hk : okV (keptM v k) := by
    have h1 := kept_abs v k
    have h2 := Nat.div_mul_le_self v.natAbs (2 ^ k)
    unfold okV at *
    omega
  unfold setQ
  by_cases hi : inB w hh x y
  · rw [if_pos ⟨hi, hv⟩, if_pos ⟨hi, hk⟩]
    refine ⟨h.s, h.t, h.r, fun X Y => ?_, fun X Y hX => by have : q.s X Y = true := hX; rw [hq] at this; cases this⟩
    show upd q'.v x y (keptM v k) X Y = keptM (upd q.v x y v X Y) k
    unfold upd
    split
    · rfl
    · exact h.v X Y
  · rw [if_neg fun h => hi h.1, if_neg fun h => hi h.1]
    exact h
theorem setV_s (w h : Nat) (l : List Int) (n : Nat) : (setV w h l n).s = fun _ _ => false := by
  induction n with
  | zero => rfl
  | succ n ih =>
    show (setQ _ _ _ _ _ _).s = _
    unfold setQ
    split
    · exact ih
    · exact ih
theorem setV_t (w h : Nat) (l : List Int) (n : Nat) : (setV w h l n).t = fun _ _ => false := by
  induction n with
  | zero => rfl
  | succ n ih =>
    show (setQ _ _ _ _ _ _).t = _
    unfold setQ
    split
    · exact ih
    · exact ih
theorem setV_kept (w h : Nat) (l : List Int) (hl : ∀ v ∈ l, okV v) (k n : Nat) : Rl k (setV w h l n) (setV w h (l.map fun v => keptM v k) n) := by
  have k0 : keptM 0 k = 0 := by unfold keptM; simp
  induction n with
  | zero => exact ⟨rfl, rfl, rfl, fun x y => k0.symm, fun x y h => by cases h⟩
  | succ n ih =>
    have e : ((l.map fun v => keptM v k)[n]?.getD 0) = keptM (l[n]?.getD 0) k := by
      rw [List.getElem?_map]
      cases l[n]? with
      | none => exact k0.symm
      | some v => rfl
    show Rl k (setQ _ _ _ _ _ _) (setQ _ _ _ _ _ _)
    rw [e]
    refine ih.set _ _ _ _ _ ?_ (setV_s _ _ _ _)
    by_cases hn : n < l.length
    · rw [List.getElem?_eq_getElem hn]; exact hl _ (List.getElem_mem hn)
    · rw [List.getElem?_eq_none (by omega)]; decide
theorem blk_kept {k : Nat} {q q' : St} (w h : Nat) (planes : Nat) (o : Int) (m : Mo) (H : Rl k q q') (n : Nat) (hn : n + 2 ≤ 3 * (planes - k)) (hk : k < planes) : Rl k (blkP w h planes o m q n) (blkP w h planes o m q' n) ∧ ∀ j, j < n → symP w h planes o m q' j = symP w h planes o m q j := by
  induction n with
  | zero => exact ⟨H, fun j hj => by omega⟩
  | succ n ih =>
    obtain ⟨h1, h2⟩ := ih (by omega)
    have hs : k ≤ (ppR w h (n : Int) (planes : Int) o m).s := by
      show k ≤ ((planes : Int) - 1 - plnP (n : Int)).toNat
      unfold plnP
      split
      · omega
      split <;> omega
    have h3 : Re k (runQ w h (n : Int) planes o m (blkP w h planes o m q n)) (runQ w h (n : Int) planes o m (blkP w h planes o m q' n)) := Re.pass (e := (blkP w h planes o m q n, [])) (e' := (blkP w h planes o m q' n, [])) ⟨h1, rfl⟩ hs _ _
    refine ⟨h3.st, fun j hj => ?_⟩
    rcases Nat.lt_or_ge j n with h | h
    · exact h2 j h
    · obtain rfl : j = n := by omega
      exact h3.l
theorem mx_kept (l : List Int) (k m0 : Nat) : (l.map fun v => keptM v k).foldl (fun m v => max m v.natAbs) (m0 / 2 ^ k * 2 ^ k) = (l.foldl (fun m v => max m v.natAbs) m0) / 2 ^ k * 2 ^ k := by
  induction l generalizing m0 with
  | nil => rfl
  | cons a l ih =>
    rw [List.map_cons, List.foldl_cons, List.foldl_cons, ← ih, kept_abs]
    congr 1
    rcases Nat.le_total m0 a.natAbs with h | h
    · rw [Nat.max_eq_right h, Nat.max_eq_right (Nat.mul_le_mul_right _ (Nat.div_le_div_right h))]
    · rw [Nat.max_eq_left h, Nat.max_eq_left (Nat.mul_le_mul_right _ (Nat.div_le_div_right h))]
theorem pln_kept (l : List Int) (k : Nat) (hl : mxN l < 2 ^ 64) (hk : k < plnN l) : plnN (l.map fun v => keptM v k) = plnN l := by
  have e : mxN (l.map fun v => keptM v k) = mxN l / 2 ^ k * 2 ^ k := by
    have := mx_kept l k 0
    rw [Nat.zero_div, Nat.zero_mul] at this
    exact this
  unfold plnN at *
  rw [e]
  have hle := Nat.div_mul_le_self (mxN l) (2 ^ k)
  have hlt : mxN l / 2 ^ k * 2 ^ k < 2 ^ 64 := by omega
  have h1 := (bit_iff (mxN l / 2 ^ k * 2 ^ k) (Lib.bitLen (mxN l)) hlt).2 (by have := (bit_iff (mxN l) _ hl).1 (Nat.le_refl _); omega)
  have h2 : ¬ Lib.bitLen (mxN l / 2 ^ k * 2 ^ k) ≤ Lib.bitLen (mxN l) - 1 := fun h => by
    have h3 := (bit_iff (mxN l / 2 ^ k * 2 ^ k) _ hlt).1 h
    have h4 : ¬ mxN l < 2 ^ (Lib.bitLen (mxN l) - 1) := fun h => by have := (bit_iff (mxN l) _ hl).2 h; omega
    obtain ⟨d, hd⟩ : ∃ d, Lib.bitLen (mxN l) - 1 = k + d := ⟨Lib.bitLen (mxN l) - 1 - k, by omega⟩
    rw [hd] at h3 h4
    apply h4
    rw [Nat.pow_add] at *
    have h5 : mxN l / 2 ^ k < 2 ^ d := by
      rw [Nat.mul_comm] at h3
      exact Nat.lt_of_mul_lt_mul_left h3
    rw [Nat.mul_comm]
    exact (Nat.div_lt_iff_lt_mul (Nat.two_pow_pos k)).1 h5
  omega
end Go.Proofs.YtbhjapgioaiocaaDoor
