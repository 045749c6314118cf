/-
  An offset of all samples: what it does to the parts of a signal, to the subbands of a plane. Mathematics alone.
-/
import Derived.Test.YtoplgnckdmkaoaaLawB5
set_option maxRecDepth 100000
namespace Go.Proofs.Ytoplgnckdmkaoaa.Ex

/-- A number added to each of a signal's. -/
def addL (d : Int) (l : List Int) : List Int := l.map fun v => v + d
theorem addL_len (d : Int) (l : List Int) : (addL d l).length = l.length := by simp [addL]
theorem sg_add {s d : Int} {x : List Int} {i : Int} (h0 : s ≤ i) (h1 : i < s + x.length) : sg s (addL d x) i = sg s x i + d := by
  have hk : (i - s).toNat < x.length := by omega
  simp [sg, addL, List.getD_eq_getElem?_getD, hk]
theorem ex_add {s d : Int} {x : List Int} (hn : 0 < x.length) (i : Int) : ex s (addL d x) i = ex s x i + d := by
  have hm := mir_mem (i := i) (lo := s) (hi := s + x.length) (by omega)
  unfold ex
  rw [addL_len]
  exact sg_add hm.1 hm.2
theorem pred_add {g g' : Int → Int} {d i k : Int} (hk : k = 1 ∨ k = 2 ∨ k = 3) (h : ∀ j, g' j = g j + d) : predF g' i k = predF g i k + d := by
  unfold predF
  rcases hk with rfl | rfl | rfl
  · simp [h]
  · simp [h]; omega
  · simp [h]; omega
theorem fwd_add_even {s d k : Int} {x : List Int} (hk : k = 1 ∨ k = 2 ∨ k = 3) (hn : 1 < x.length) {i : Int} (h0 : s ≤ i) (h1 : i < s + x.length) :
    sg s (fwdL s (addL d x) k) i = if i % 2 = 0 then sg s (fwdL s x k) i + d else sg s (fwdL s x k) i := by
  have e1 : ∀ i, s ≤ i → i < s + x.length → sg s (step1 s (addL d x) k) i = if i % 2 = 0 then sg s (step1 s x k) i + d else sg s (step1 s x k) i := by
    intro i h0 h1
    unfold step1
    rw [addL_len, sg_tb h0 h1, sg_tb h0 h1]
    unfold step1F
    by_cases hp : i % 2 = 0
    · rw [if_pos hp, if_pos hp, if_pos hp, sg_add h0 h1]
    · rw [if_neg hp, if_neg hp, if_neg hp, sg_add h0 h1, pred_add (g := ex s x) hk (fun j => ex_add (by omega) j)]; omega
  have l1 : (step1 s (addL d x) k).length = (step1 s x k).length := by rw [step1_len, step1_len, addL_len]
  have hu : ∀ i, i % 2 = 0 → updF (ex s (step1 s (addL d x) k)) i k = updF (ex s (step1 s x k)) i k := by
    intro i hi
    refine upd_congr hi fun j hj => ?_
    refine ex_par (p := 1) l1 (by rw [step1_len]; exact hn) (fun t t0 t1 tp => ?_) hj
    rw [step1_len] at t1
    rw [e1 t t0 t1, if_neg (by omega)]
  unfold fwdL
  rw [addL_len, if_pos hn, if_pos hn]
  unfold step2
  rw [step1_len, step1_len, addL_len, sg_tb h0 h1, sg_tb h0 h1]
  unfold step2F
  by_cases hp : i % 2 = 0
  · rw [if_pos hp, if_pos hp, if_pos hp, e1 i h0 h1, if_pos hp, hu i hp]; omega
  · rw [if_neg hp, if_neg hp, if_neg hp, e1 i h0 h1, if_neg hp]
theorem splitE_map {s : Int} {x y : List Int} {d : Int} (hl : y.length = x.length) (h : ∀ j (hj : j < x.length), (s + (j : Int)) % 2 = 0 → y[j] = x[j] + d) : splitE s y = addL d (splitE s x) := by
  refine List.ext_getElem (by rw [addL_len, splitE_len, splitE_len, hl]) fun k h1 h2 => ?_
  have h1' := h1
  rw [splitE_len, hl] at h1'
  obtain ⟨j, hj, hp, rfl⟩ := cnt_ex.1 h1'
  have a1 := (List.getElem?_eq_some_iff.1 ((split_get (s := s) (x := y) (j := j) (by omega)).1 hp)).2
  have a2 := (List.getElem?_eq_some_iff.1 ((split_get (s := s) (x := x) (j := j) hj).1 hp)).2
  rw [a1, h j hj hp, ← a2]
  simp [addL]
theorem splitO_map {s : Int} {x y : List Int} {d : Int} (hl : y.length = x.length) (h : ∀ j (hj : j < x.length), (s + (j : Int)) % 2 ≠ 0 → y[j] = x[j] + d) : splitO s y = addL d (splitO s x) := by
  refine List.ext_getElem (by rw [addL_len, splitO_len, splitO_len, hl]) fun k h1 h2 => ?_
  have h1' := h1
  rw [splitO_len, hl] at h1'
  obtain ⟨j, hj, hp, rfl⟩ := cnt_ex.2 h1'
  have a1 := (List.getElem?_eq_some_iff.1 ((split_get (s := s) (x := y) (j := j) (by omega)).2 hp)).2
  have a2 := (List.getElem?_eq_some_iff.1 ((split_get (s := s) (x := x) (j := j) hj).2 hp)).2
  rw [a1, h j hj hp, ← a2]
  simp [addL]
theorem addL_zero (l : List Int) : addL 0 l = l := by simp [addL]
theorem loF_add {s d k : Int} {x : List Int} (hk : k = 1 ∨ k = 2 ∨ k = 3) : loF s k (addL d x) = addL d (loF s k x) := by
  unfold loF
  by_cases hn : 1 < x.length
  · refine splitE_map (by rw [fwd_len, fwd_len, addL_len]) fun j hj hp => ?_
    rw [fwd_len] at hj
    have h := fwd_add_even (s := s) (d := d) hk hn (i := s + (j : Int)) (by omega) (by omega)
    rw [if_pos hp, sg_at (by rw [fwd_len, addL_len]; exact hj), sg_at (by rw [fwd_len]; exact hj)] at h
    exact h
  · unfold fwdL
    rw [addL_len, if_neg hn, if_neg hn]
    exact splitE_map (addL_len d x) fun j hj _ => by simp [addL]
theorem hiF_add {s d k : Int} {x : List Int} (hk : k = 1 ∨ k = 2 ∨ k = 3) : hiF s k (addL d x) = if x.length = 1 ∧ s % 2 ≠ 0 then addL d (hiF s k x) else hiF s k x := by
  unfold hiF
  by_cases hn : 1 < x.length
  · rw [if_neg (by omega)]
    have := splitO_map (s := s) (x := fwdL s x k) (y := fwdL s (addL d x) k) (d := 0) (by rw [fwd_len, fwd_len, addL_len]) fun j hj hp => by
      rw [fwd_len] at hj
      have h := fwd_add_even (s := s) (d := d) hk hn (i := s + (j : Int)) (by omega) (by omega)
      rw [if_neg hp, sg_at (by rw [fwd_len, addL_len]; exact hj), sg_at (by rw [fwd_len]; exact hj)] at h
      rw [h]; omega
    rw [this, addL_zero]
  · unfold fwdL
    rw [addL_len, if_neg hn, if_neg hn]
    have h := splitO_map (s := s) (x := x) (y := addL d x) (d := d) (addL_len d x) fun j hj _ => by simp [addL]
    split
    · exact h
    · rename_i hq
      have hz : (splitO s x).length = 0 := by
        rw [splitO_len]
        by_cases h0 : x.length = 0
        · rw [h0]; simp [cntO]
        · have h1 : x.length = 1 := by omega
          have hs : s % 2 = 0 := by omega
          rw [h1]; unfold cntO cntE; omega
      rw [h, List.length_eq_zero_iff.1 hz]
      rfl
def addP (d : Int) (P : List (List Int)) : List (List Int) := P.map (addL d)
theorem addP_len (d : Int) (P : List (List Int)) : (addP d P).length = P.length := by simp [addP]
theorem addP_wide {d : Int} {n : Nat} {P : List (List Int)} (h : Wide n P) : Wide n (addP d P) := fun r hr => by
  obtain ⟨q, hq, rfl⟩ := List.mem_map.1 hr
  rw [addL_len]; exact h q hq
theorem addP_flat (d : Int) (P : List (List Int)) : (addP d P).flatten = addL d P.flatten := by
  unfold addP addL
  rw [List.map_flatten]
theorem lowR_add {s d k : Int} {P : List (List Int)} (hk : k = 1 ∨ k = 2 ∨ k = 3) : lowR s k (addP d P) = addP d (lowR s k P) := by
  unfold lowR addP
  rw [List.map_map, List.map_map]
  exact List.map_congr_left fun r _ => loF_add hk
theorem highR_add {s d k : Int} {n : Nat} {P : List (List Int)} (hk : k = 1 ∨ k = 2 ∨ k = 3) (hW : Wide n P) : highR s k (addP d P) = if n = 1 ∧ s % 2 ≠ 0 then addP d (highR s k P) else highR s k P := by
  split
  · rename_i h
    unfold highR addP
    rw [List.map_map, List.map_map]
    exact List.map_congr_left fun r hr => by
      show hiF s k (addL d r) = addL d (hiF s k r)
      rw [hiF_add hk, hW r hr, if_pos h]
  · rename_i h
    unfold highR addP
    rw [List.map_map]
    exact List.map_congr_left fun r hr => by
      show hiF s k (addL d r) = hiF s k r
      rw [hiF_add hk, hW r hr, if_neg h]
theorem trn_add {d : Int} {n : Nat} {Q : List (List Int)} (h : Wide n Q) : trn n (addP d Q) = addP d (trn n Q) := by
  unfold trn addP
  rw [List.map_map]
  refine List.map_congr_left fun x hx => ?_
  have hx' : x < n := List.mem_range.1 hx
  simp only [Function.comp, addL, List.map_map]
  refine List.map_congr_left fun r hr => ?_
  have := h r hr
  simp [addL, List.getD_eq_getElem?_getD, show x < r.length by omega]
theorem lowC_add {s d k : Int} {n : Nat} {L : List (List Int)} (hk : k = 1 ∨ k = 2 ∨ k = 3) (hW : Wide n L) : lowC s k n (addP d L) = addP d (lowC s k n L) := by
  unfold lowC
  rw [addP_len, trn_add hW, lowR_add hk, trn_add]
  exact lowR_wide (trn_wide n L)
theorem highC_add {s d k : Int} {n : Nat} {L : List (List Int)} (hk : k = 1 ∨ k = 2 ∨ k = 3) (hW : Wide n L) : highC s k n (addP d L) = if L.length = 1 ∧ s % 2 ≠ 0 then addP d (highC s k n L) else highC s k n L := by
  unfold highC
  rw [addP_len, trn_add hW, highR_add hk (trn_wide n L)]
  split
  · exact trn_add (highR_wide (trn_wide n L))
  · rfl
theorem cut_add (d : Int) (w : Nat) (l : List Int) (h : Nat) : cutR w (addL d l) h = addP d (cutR w l h) := by
  unfold cutR addP addL
  rw [List.map_map]
  exact List.map_congr_left fun y _ => by simp [Function.comp, List.map_take, List.map_drop]
end Go.Proofs.Ytoplgnckdmkaoaa.Ex
namespace Go.Proofs.Ytoplgnckdmkaoaa
open Go.RowKit
/-- Which subband an offset moves. -/
def offB (a b : Int) (n h : Nat) : Nat := (if n = 1 ∧ a % 2 ≠ 0 then 1 else 0) + (if h = 1 ∧ b % 2 ≠ 0 then 2 else 0)
theorem band_add {a b kn d : Int} {n h : Nat} {l : List Int} (hk : kB kn = true) (hl : l.length = h * n) (o : Nat) (ho : o < 4) :
    (bandQ a b kn n (Ex.cutR n (Ex.addL d l) h) o).flatten = if o = offB a b n h then Ex.addL d (bandQ a b kn n (Ex.cutR n l h) o).flatten else (bandQ a b kn n (Ex.cutR n l h) o).flatten := by
  have hk' : kn = 1 ∨ kn = 2 ∨ kn = 3 := by simpa [kB] using hk
  have hW := Ex.cutR_wide hl
  have hP : (Ex.cutR n l h).length = h := Ex.cutR_len _ _ _
  have bl := band_len (a := a) (b := b) (kn := kn) hW hP o ho
  rw [Ex.cut_add]
  generalize Ex.cutR n l h = P at *
  have lw := Ex.lowR_wide (s := a) (k := kn) hW
  have hw := Ex.highR_wide (s := a) (k := kn) hW
  have ll : (Ex.lowR a kn P).length = h := by simp [Ex.lowR, hP]
  have hl' : (Ex.highR a kn P).length = h := by simp [Ex.highR, hP]
  have c1 : n = 1 ∧ a % 2 ≠ 0 → Ex.cntE a n = 0 := fun q => by obtain ⟨rfl, q⟩ := q; unfold Ex.cntE; omega
  have c2 : h = 1 ∧ b % 2 ≠ 0 → Ex.cntE b h = 0 := fun q => by obtain ⟨rfl, q⟩ := q; unfold Ex.cntE; omega
  have e0 : bandQ a b kn n (Ex.addP d P) 0 = Ex.addP d (bandQ a b kn n P 0) := by
    show Ex.lowC b kn (Ex.cntE a n) (Ex.lowR a kn (Ex.addP d P)) = Ex.addP d (Ex.lowC b kn (Ex.cntE a n) (Ex.lowR a kn P))
    rw [Ex.lowR_add hk', Ex.lowC_add hk' lw]
  have e1 : bandQ a b kn n (Ex.addP d P) 1 = if n = 1 ∧ a % 2 ≠ 0 then Ex.addP d (bandQ a b kn n P 1) else bandQ a b kn n P 1 := by
    show Ex.lowC b kn (Ex.cntO a n) (Ex.highR a kn (Ex.addP d P)) = if n = 1 ∧ a % 2 ≠ 0 then Ex.addP d (Ex.lowC b kn (Ex.cntO a n) (Ex.highR a kn P)) else Ex.lowC b kn (Ex.cntO a n) (Ex.highR a kn P)
    rw [Ex.highR_add hk' hW]
    split
    · exact Ex.lowC_add hk' hw
    · rfl
  have e2 : bandQ a b kn n (Ex.addP d P) 2 = if h = 1 ∧ b % 2 ≠ 0 then Ex.addP d (bandQ a b kn n P 2) else bandQ a b kn n P 2 := by
    show Ex.highC b kn (Ex.cntE a n) (Ex.lowR a kn (Ex.addP d P)) = if h = 1 ∧ b % 2 ≠ 0 then Ex.addP d (Ex.highC b kn (Ex.cntE a n) (Ex.lowR a kn P)) else Ex.highC b kn (Ex.cntE a n) (Ex.lowR a kn P)
    rw [Ex.lowR_add hk', Ex.highC_add hk' lw, ll]
  have e3 : bandQ a b kn n (Ex.addP d P) 3 = if (n = 1 ∧ a % 2 ≠ 0) ∧ h = 1 ∧ b % 2 ≠ 0 then Ex.addP d (bandQ a b kn n P 3) else bandQ a b kn n P 3 := by
    show Ex.highC b kn (Ex.cntO a n) (Ex.highR a kn (Ex.addP d P)) = if (n = 1 ∧ a % 2 ≠ 0) ∧ h = 1 ∧ b % 2 ≠ 0 then Ex.addP d (Ex.highC b kn (Ex.cntO a n) (Ex.highR a kn P)) else Ex.highC b kn (Ex.cntO a n) (Ex.highR a kn P)
    rw [Ex.highR_add hk' hW]
    by_cases q : n = 1 ∧ a % 2 ≠ 0
    · rw [if_pos q, Ex.highC_add hk' hw, hl']
      by_cases q2 : h = 1 ∧ b % 2 ≠ 0
      · rw [if_pos q2, if_pos ⟨q, q2⟩]
      · rw [if_neg q2, if_neg (fun z => q2 z.2)]
    · rw [if_neg q, if_neg (fun z => q z.1)]
  have nil : ∀ X : List Int, X.length = 0 → Ex.addL d X = X := fun X hX => by rw [List.length_eq_zero_iff.1 hX]; rfl
  unfold offB
  match o, ho with
  | 0, _ =>
    rw [e0, Ex.addP_flat]
    by_cases q : n = 1 ∧ a % 2 ≠ 0
    · rw [if_pos q, if_neg (by omega)]
      exact nil _ (by rw [bl]; show Ex.cntE b h * Ex.cntE a n = 0; rw [c1 q, Nat.mul_zero])
    · rw [if_neg q]
      by_cases q2 : h = 1 ∧ b % 2 ≠ 0
      · rw [if_pos q2, if_neg (by omega)]
        exact nil _ (by rw [bl]; show Ex.cntE b h * Ex.cntE a n = 0; rw [c2 q2, Nat.zero_mul])
      · rw [if_neg q2, if_pos rfl]
  | 1, _ =>
    rw [e1]
    by_cases q : n = 1 ∧ a % 2 ≠ 0
    · rw [if_pos q, if_pos q, Ex.addP_flat]
      by_cases q2 : h = 1 ∧ b % 2 ≠ 0
      · rw [if_pos q2, if_neg (by omega)]
        exact nil _ (by rw [bl]; show Ex.cntE b h * Ex.cntO a n = 0; rw [c2 q2, Nat.zero_mul])
      · rw [if_neg q2, if_pos rfl]
    · rw [if_neg q, if_neg q]
      by_cases q2 : h = 1 ∧ b % 2 ≠ 0
      · rw [if_pos q2, if_neg (by decide)]
      · rw [if_neg q2, if_neg (by decide)]
  | 2, _ =>
    rw [e2]
    by_cases q2 : h = 1 ∧ b % 2 ≠ 0
    · rw [if_pos q2, if_pos q2, Ex.addP_flat]
      by_cases q : n = 1 ∧ a % 2 ≠ 0
      · rw [if_pos q, if_neg (by omega)]
        exact nil _ (by rw [bl]; show Ex.cntO b h * Ex.cntE a n = 0; rw [c1 q, Nat.mul_zero])
      · rw [if_neg q, if_pos rfl]
    · rw [if_neg q2, if_neg q2]
      by_cases q : n = 1 ∧ a % 2 ≠ 0
      · rw [if_pos q, if_neg (by decide)]
      · rw [if_neg q, if_neg (by decide)]
  | 3, _ =>
    rw [e3]
    by_cases q : n = 1 ∧ a % 2 ≠ 0
    · by_cases q2 : h = 1 ∧ b % 2 ≠ 0
      · rw [if_pos ⟨q, q2⟩, if_pos q, if_pos q2, if_pos rfl, Ex.addP_flat]
      · rw [if_neg (fun z => q2 z.2), if_pos q, if_neg q2, if_neg (by omega)]
    · rw [if_neg (fun z => q z.1), if_neg q]
      by_cases q2 : h = 1 ∧ b % 2 ≠ 0
      · rw [if_pos q2, if_neg (by decide)]
      · rw [if_neg q2, if_neg (by decide)]
end Go.Proofs.Ytoplgnckdmkaoaa
