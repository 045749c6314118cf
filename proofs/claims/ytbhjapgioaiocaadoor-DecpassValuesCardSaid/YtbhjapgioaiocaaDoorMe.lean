/-
  Layer 15: the passes of a plane code each coefficient once.
-/
import Derived.Test.YtbhjapgioaiocaaDoorMd
set_option maxRecDepth 100000
namespace Go.Proofs.YtbhjapgioaiocaaDoor
open Go.RowKit

section
variable {p : Pp}
theorem runS_t (p : Pp) (e : Es) (x top : Nat) : (runS p e x top).1.t = e.1.t := by
  have hm : ∀ (q : St) (X Y : Int), (markQ p.w p.h q X Y).t = q.t := fun q X Y => by unfold markQ; split <;> rfl
  unfold runS
  split
  · rfl
  · exact hm _ _ _
theorem runS_s (p : Pp) (e : Es) (x top : Nat) (X Y : Int) (h : ¬ (X = (x : Int) ∧ Y = ((top + zerQ p e.1 x top : Nat) : Int))) : (runS p e x top).1.s X Y = e.1.s X Y := by
  unfold runS
  split
  · rfl
  · show (markQ p.w p.h _ _ _).s X Y = _
    unfold markQ
    split
    · exact upd_far _ _ _ _ _ _ h
    · rfl
theorem runS_ok (hr : p.raw = false) {e : Es} {n : Nat} (h : Ok e.2 n) (x top : Nat) : Ok (runS p e x top).2 (n + runN p e.1 x top) := by
  have hz := zer_le (oneQ p e.1 x top)
  unfold runS runN
  by_cases h4 : zerQ p e.1 x top = 4
  · rw [if_pos h4, if_pos h4]
    have := h.app (Ok.run0 [] 0 Ok.nil)
    have e1 : (putS p e 17 0).2 = e.2 ++ [(17, 0)] := by unfold putS; rw [cx_raw hr]
    rw [e1]
    exact this
  · rw [if_neg h4, if_neg h4]
    have hz3 : zerQ p e.1 x top ≤ 3 := by unfold zerQ at *; omega
    generalize zerQ p e.1 x top = k at *
    have := h.app (Ok.run1 (k / 2) (k % 2) [] 0 (by omega) (by omega) Ok.nil)
    have e1 : (putS p (putS p (putS p e 17 1) 18 ((k / 2 : Nat) : Int)) 18 ((k % 2 : Nat) : Int)).2 = e.2 ++ [(17, 1), (18, ((k / 2 : Nat) : Int)), (18, ((k % 2 : Nat) : Int))] := by
      unfold putS
      rw [cx_raw hr, cx_raw hr]
      simp
    rw [← e1] at this
    have h5 := this.sign hr (x : Int) ((top + k : Nat) : Int)
    rw [show n + (k + 1) = n + (0 + (2 * (k / 2) + k % 2 + 1)) by omega]
    exact h5
theorem colP_split (x top n k : Nat) (h : k ≤ n) : colP x top n = colP x top k ++ colP x (top + k) (n - k) := by
  unfold colP
  have : List.range n = List.range k ++ (List.range (n - k)).map (k + ·) := by
    rw [show n = k + (n - k) by omega, List.range_add]
    simp
  rw [this, List.map_append, List.map_map]
  congr 1
  apply List.map_congr_left
  intro i hi
  simp
  omega
theorem col_cnt (hr : p.raw = false) (e : Es) (n x top m : Nat) (h : Ok e.2 n) : Ok (colS p e x top m).2 (n + cntF (nst e.1) (colP x top m)) ∧ (colS p e x top m).1.t = e.1.t ∧ ∀ z : Int × Int, z ∉ colP x top m → (colS p e x top m).1.s z.1 z.2 = e.1.s z.1 z.2 := by
  unfold colS
  by_cases hq : quietQ p e.1 x top m = true
  · rw [if_pos hq]
    have hq4 : m = 4 := by unfold quietQ at hq; simp at hq; exact hq.2
    subst hq4
    have hall : ∀ z ∈ colP x top 4, nst e.1 z.1 z.2 = true := fun z hz => by
      unfold quietQ at hq
      rw [Bool.and_eq_true, List.all_eq_true] at hq
      have := hq.1 z hz
      unfold busyQ at this
      unfold nst
      cases hs : e.1.s z.1 z.2 <;> cases ht : e.1.t z.1 z.2 <;> simp_all
    have hz := zer_le (oneQ p e.1 x top)
    have hrn : runN p e.1 x top ≤ 4 := by unfold runN zerQ; split <;> (unfold zerQ at *; omega)
    have hrk : ∀ z ∈ colP x (top + runN p e.1 x top) (4 - runN p e.1 x top), ¬ (z.1 = (x : Int) ∧ z.2 = ((top + zerQ p e.1 x top : Nat) : Int)) := fun z hz2 hh => by
      obtain ⟨Y, rfl, h1, h2⟩ := colP_in _ _ _ z hz2
      have h3 : ((Y : Nat) : Int) = ((top + zerQ p e.1 x top : Nat) : Int) := hh.2
      unfold runN at h1 h2
      split at h1 <;> split at h2 <;> omega
    obtain ⟨h1, h2, h3⟩ := cln_cnt hr (colP x (top + runN p e.1 x top) (4 - runN p e.1 x top)) (runS p e x top) _ (colP_nodup _ _ _) (runS_ok hr h x top)
    have hsp := colP_split x top 4 (runN p e.1 x top) hrn
    have hc1 : cntF (nst (runS p e x top).1) (colP x (top + runN p e.1 x top) (4 - runN p e.1 x top)) = 4 - runN p e.1 x top := by
      rw [cntF_all, colP_len]
      intro z hz2
      have h5 := hall z (by rw [hsp]; exact List.mem_append_right _ hz2)
      unfold nst at h5 ⊢
      rw [runS_t, runS_s p e x top _ _ (hrk z hz2)]
      exact h5
    have hc2 : cntF (nst e.1) (colP x top 4) = 4 := by rw [cntF_all hall, colP_len]
    refine ⟨?_, h2.trans (runS_t _ _ _ _), fun z hz2 => ?_⟩
    · rw [hc1] at h1
      rw [hc2, show n + 4 = n + runN p e.1 x top + (4 - runN p e.1 x top) by omega]
      exact h1
    · rw [h3 z (fun hm => hz2 (by rw [hsp]; exact List.mem_append_right _ hm))]
      by_cases h4 : zerQ p e.1 x top = 4
      · unfold runS; rw [if_pos h4]; rfl
      · refine runS_s p e x top _ _ fun hh => hz2 ?_
        have e1 : z = ((x : Int), ((top + zerQ p e.1 x top : Nat) : Int)) := Prod.ext hh.1 hh.2
        rw [e1]
        unfold colP
        exact List.mem_map.2 ⟨zerQ p e.1 x top, List.mem_range.2 (by unfold zerQ at *; omega), rfl⟩
  · rw [if_neg hq]
    exact cln_cnt hr _ e n (colP_nodup _ _ _) h
theorem str_cnt (hr : p.raw = false) (e : Es) (n top m k : Nat) (h : Ok e.2 n) : Ok (strS p e top m k).2 (n + cntF (nst e.1) (strP top m k)) ∧ (strS p e top m k).1.t = e.1.t ∧ ∀ z : Int × Int, z ∉ strP top m k → (strS p e top m k).1.s z.1 z.2 = e.1.s z.1 z.2 := by
  induction k with
  | zero => exact ⟨h, rfl, fun _ _ => rfl⟩
  | succ k ih =>
    obtain ⟨h1, h2, h3⟩ := ih
    have e1 : strS p e top m (k + 1) = colS p (strS p e top m k) k top m := by unfold strS; rw [foldl_rng]
    obtain ⟨h4, h5, h6⟩ := col_cnt hr (strS p e top m k) _ k top m h1
    have hd : ∀ z ∈ colP k top m, z ∉ strP top m k := fun z hz hm => by
      obtain ⟨Y, rfl, _, _⟩ := colP_in _ _ _ z hz
      obtain ⟨X, Y', e2, hX, _⟩ := strP_in _ _ _ _ hm
      have : ((k : Nat) : Int) = (X : Int) := congrArg Prod.fst e2
      omega
    have hc : cntF (nst (strS p e top m k).1) (colP k top m) = cntF (nst e.1) (colP k top m) := cntF_ext fun z hz => by
      unfold nst
      rw [h2, h3 z (hd z hz)]
    rw [e1, strP_succ, cntF_app, ← Nat.add_assoc, ← hc]
    refine ⟨h4, h5.trans h2, fun z hz => ?_⟩
    rw [h6 z (fun hm => hz (List.mem_append_right _ hm)), h3 z (fun hm => hz (List.mem_append_left _ hm))]
theorem cl_cnt (hr : p.raw = false) (e : Es) (n k : Nat) (h : Ok e.2 n) : Ok (clS p e k).2 (n + cntF (nst e.1) (scnP p.w p.h k)) ∧ (clS p e k).1.t = e.1.t ∧ ∀ z : Int × Int, z ∉ scnP p.w p.h k → (clS p e k).1.s z.1 z.2 = e.1.s z.1 z.2 := by
  induction k with
  | zero => exact ⟨h, rfl, fun _ _ => rfl⟩
  | succ k ih =>
    obtain ⟨h1, h2, h3⟩ := ih
    have e1 : clS p e (k + 1) = strS p (clS p e k) (4 * k) (min 4 (p.h - 4 * k)) p.w := by unfold clS; rw [foldl_rng]
    obtain ⟨h4, h5, h6⟩ := str_cnt hr (clS p e k) _ (4 * k) (min 4 (p.h - 4 * k)) p.w h1
    have hd : ∀ z ∈ strP (4 * k) (min 4 (p.h - 4 * k)) p.w, z ∉ scnP p.w p.h k := fun z hz hm => by
      obtain ⟨X, Y, rfl, _, h7, _⟩ := strP_in _ _ _ z hz
      obtain ⟨X', Y', e2, _, _, h8⟩ := scnP_in _ _ _ _ hm
      have : ((Y : Nat) : Int) = (Y' : Int) := congrArg Prod.snd e2
      omega
    have hc : cntF (nst (clS p e k).1) (strP (4 * k) (min 4 (p.h - 4 * k)) p.w) = cntF (nst e.1) (strP (4 * k) (min 4 (p.h - 4 * k)) p.w) := cntF_ext fun z hz => by
      unfold nst
      rw [h2, h3 z (hd z hz)]
    rw [e1, scnP_succ, cntF_app, ← Nat.add_assoc, ← hc]
    refine ⟨h4, h5.trans h2, fun z hz => ?_⟩
    rw [h6 z (fun hm => hz (List.mem_append_right _ hm)), h3 z (fun hm => hz (List.mem_append_left _ hm))]
theorem off_t (l : List (Int × Int)) : ∀ e : Es, (∀ z ∈ l, inB p.w p.h z.1 z.2) → (∀ z ∈ l, (offS p e l).1.t z.1 z.2 = false) ∧ ∀ z : Int × Int, e.1.t z.1 z.2 = false → (offS p e l).1.t z.1 z.2 = false := by
  induction l with
  | nil => exact fun e _ => ⟨fun z hz => by simp at hz, fun z h => h⟩
  | cons a l ih =>
    intro e hin
    have ha := hin a (by simp)
    obtain ⟨h1, h2⟩ := ih (touchS p e a.1 a.2 false) (fun z hz => hin z (List.mem_cons_of_mem _ hz))
    have h0 : (touchS p e a.1 a.2 false).1.t a.1 a.2 = false := touch_at _ _ _ _ _ _ ha
    refine ⟨fun z hz => ?_, fun z hz => ?_⟩
    · rcases List.mem_cons.1 hz with rfl | h
      · exact h2 z h0
      · exact h1 z h
    · refine h2 z ?_
      by_cases he : z.1 = a.1 ∧ z.2 = a.2
      · rw [he.1, he.2]; exact h0
      · exact (touch_far _ _ _ _ _ _ _ _ he).trans hz
theorem clean_cnt (hr : p.raw = false) (e : Es) (n : Nat) (h : Ok e.2 n) : Ok (cleanS p false e).2 (n + cntF (nst e.1) (scan p.w p.h)) ∧ ∀ z ∈ scan p.w p.h, (cleanS p false e).1.t z.1 z.2 = false := by
  obtain ⟨h1, h2, h3⟩ := cl_cnt hr e n ((p.h + 3) / 4) h
  have e1 : cleanS p false e = offS p (clS p e ((p.h + 3) / 4)) (scan p.w p.h) := rfl
  rw [e1]
  refine ⟨?_, (off_t (scan p.w p.h) _ (fun z hz => scan_in hz)).1⟩
  rw [off_l]
  exact h1
end
/-- What holds ahead of a pass, n bits of its plane being coded. -/
def Ahead (w h : Nat) (k : Nat) (q : St) (n : Nat) : Prop :=
  if kndP (k : Int) = 0 then n = 0 ∧ ∀ z ∈ scan w h, q.t z.1 z.2 = false
  else if kndP (k : Int) = 1 then n = cntF q.t (scan w h)
  else n = cntF q.t (scan w h) ∧ ∀ z ∈ scan w h, q.s z.1 z.2 = true → q.t z.1 z.2 = true
theorem ahead_0 (w h : Nat) (q : St) (hs : q.s = fun _ _ => false) (ht : q.t = fun _ _ => false) : Ahead w h 0 q 0 := by
  have hk : kndP ((0 : Nat) : Int) = 2 := by decide
  unfold Ahead
  rw [if_neg (by rw [hk]; decide), if_neg (by rw [hk]; decide)]
  refine ⟨?_, fun z hz h => by rw [hs] at h; cases h⟩
  rw [cntF_none]
  intro z hz
  rw [ht]
theorem scan_nodup (w h : Nat) : (scan w h).Nodup := scnP_nodup w h _
theorem knd_next (k : Nat) : (kndP (k : Int) = 0 ∧ kndP ((k + 1 : Nat) : Int) = 1) ∨ (kndP (k : Int) = 1 ∧ kndP ((k + 1 : Nat) : Int) = 2) ∨ (kndP (k : Int) = 2 ∧ kndP ((k + 1 : Nat) : Int) = 0) := by
  unfold kndP
  split <;> split <;> (try split) <;> (try split) <;> omega
/-- One pass: the number of bits that it codes; behind a cleanup pass all of the plane. -/
theorem pass_cnt (w h : Nat) (planes o : Int) (m : Mo) (q : St) (k n : Nat) (hb : m.b = false) (hy : m.y = false) (ha : Ahead w h k (blkP w h planes o m q k) n) :
    ∃ c, Ok (symP w h planes o m q k) c ∧ (kndP (k : Int) = 2 → n + c = w * h ∧ Ahead w h (k + 1) (blkP w h planes o m q (k + 1)) 0) ∧ (kndP (k : Int) ≠ 2 → Ahead w h (k + 1) (blkP w h planes o m q (k + 1)) (n + c)) := by
  have hr : (ppR w h (k : Int) planes o m).raw = false := by show rawM (k : Int) m.b = false; unfold rawM; rw [hb]; rfl
  have hpw : (ppR w h (k : Int) planes o m).w = w := rfl
  have hph : (ppR w h (k : Int) planes o m).h = h := rfl
  obtain ⟨b, hbk⟩ : ∃ b, b = blkP w h planes o m q k := ⟨_, rfl⟩
  have e1 : symP w h planes o m q k = (passS (ppR w h (k : Int) planes o m) (kndP (k : Int)) false (b, [])).2 := by rw [hbk, ← hy]; rfl
  have e2 : blkP w h planes o m q (k + 1) = (passS (ppR w h (k : Int) planes o m) (kndP (k : Int)) false (b, [])).1 := by rw [hbk, ← hy]; rfl
  rw [e1, e2]
  rw [← hbk] at ha
  clear e1 e2 hbk
  generalize ppR w h (k : Int) planes o m = p at *
  subst hpw hph
  have h0 : Ok ((b, []) : Es).2 0 := Ok.nil
  have hnd := scan_nodup p.w p.h
  have hin : ∀ z ∈ scan p.w p.h, inB p.w p.h z.1 z.2 := fun z hz => scan_in hz
  unfold Ahead at ha
  rcases knd_next k with ⟨k1, k2⟩ | ⟨k1, k2⟩ | ⟨k1, k2⟩
  · rw [if_pos k1] at ha
    obtain ⟨rfl, ht⟩ := ha
    have e3 : passS p (kndP (k : Int)) false (b, []) = (scan p.w p.h).foldl (sigS p) (b, []) := by unfold passS; rw [if_pos k1]
    rw [e3]
    obtain ⟨h1, _⟩ := sig_cnt hr (scan p.w p.h) (b, []) 0 hnd hin ht h0
    rw [Nat.zero_add] at h1
    refine ⟨_, h1, fun h => absurd h (by rw [k1]; decide), fun _ => ?_⟩
    unfold Ahead
    rw [if_neg (by rw [k2]; decide), if_pos k2, Nat.zero_add]
  · rw [if_neg (by rw [k1]; decide), if_pos k1] at ha
    have e3 : passS p (kndP (k : Int)) false (b, []) = (scan p.w p.h).foldl (refS p) (b, []) := by unfold passS; rw [if_neg (by rw [k1]; decide), if_pos k1]
    rw [e3]
    obtain ⟨⟨c, h1, h2⟩, _, h3, h4⟩ := ref_cnt hr (scan p.w p.h) (b, []) 0 hnd hin h0
    rw [Nat.zero_add] at h1
    refine ⟨c, h1, fun h => absurd h (by rw [k1]; decide), fun _ => ?_⟩
    unfold Ahead
    rw [if_neg (by rw [k2]; decide), if_neg (by rw [k2]; decide)]
    refine ⟨by rw [ha, ← h2]; exact Nat.add_comm _ _, fun z hz hs => h4 z hz (by rw [h3] at hs; exact hs)⟩
  · rw [if_neg (by rw [k1]; decide), if_neg (by rw [k1]; decide)] at ha
    obtain ⟨hn, hst⟩ := ha
    have e3 : passS p (kndP (k : Int)) false (b, []) = cleanS p false (b, []) := by unfold passS; rw [if_neg (by rw [k1]; decide), if_neg (by rw [k1]; decide)]
    rw [e3]
    obtain ⟨h1, h2⟩ := clean_cnt hr (b, []) 0 h0
    rw [Nat.zero_add] at h1
    refine ⟨_, h1, fun _ => ⟨?_, ?_⟩, fun h => absurd k1 h⟩
    · have := cntF_not b.t (nst b) (scan p.w p.h) fun z hz => by
        unfold nst
        have := hst z hz
        cases hs : b.s z.1 z.2 <;> cases ht : b.t z.1 z.2 <;> simp_all
      rw [hn, ← scan_size]
      exact this
    · unfold Ahead
      rw [if_pos k2]
      exact ⟨rfl, h2⟩
end Go.Proofs.YtbhjapgioaiocaaDoor
