/-
  Layer 16: the changed symbols of DecpassRejects: rows of the law's own; what Values makes of them.
-/
import Derived.Test.YtbhjapgioaiocaaDoorMH
set_option maxRecDepth 100000
namespace Go.Proofs.YtbhjapgioaiocaaDoor
open Go.RowKit

theorem and3 (x : Int) : bits .and .i64 x 3 = x % 4 := by
  have h1 : (BitVec.ofInt 64 x &&& BitVec.ofInt 64 3).toNat = (x % 18446744073709551616).toNat % 4 := by
    rw [BitVec.toNat_and, BitVec.toNat_ofInt, BitVec.toNat_ofInt, show ((3 : Int) % ((2 ^ 64 : Nat) : Int)).toNat = 2 ^ 2 - 1 from by decide, Nat.and_two_pow_sub_one_eq_mod]
    rfl
  show IntKind.i64.wrap ((BitVec.ofInt 64 x &&& BitVec.ofInt 64 3).toNat : Int) = x % 4
  rw [h1, IntWalk.i64_in _ (by omega)]
  omega
theorem own_other {W w2 : World} {b b' n n' z z' : Nat} {t t' : TypeId} {u v : Value} {xs ys : List Value} {X : Obj} (ht : t ≠ t') (hs : W.ownsRow b t z u n xs) (hv : W.ownsRow b' t' z' v n' ys) (hg : (W.alloc X).grownBy w2 v.ownBlock) : w2.ownsRow b t z u n xs :=
  own2_keep hs fun k hk => by
    have hal := below_alloc (Below.refl _ W) X
    have hlt := own2_lt hs hk
    have hne : some k ≠ v.ownBlock := fun he => by
      rcases hs.2 with ⟨rfl, _⟩ | ⟨g, cap, cur, rfl, hb, hh, _⟩
      · simp [Value.ownBlock] at hk
      · have e1 : k = g := by simpa [Value.ownBlock] using hk.symm
        subst e1
        exact own_blk_ne hv (show Blk W k t cur from hh) (Ne.symm ht) he.symm
    have := hal.size
    rw [hg.block k (by omega) hne]
    exact hal.block k hlt.2
theorem own_other0 {W w2 : World} {b b' n n' z z' : Nat} {t t' : TypeId} {u v : Value} {xs ys : List Value} (ht : t ≠ t') (hs : W.ownsRow b t z u n xs) (hv : W.ownsRow b' t' z' v n' ys) (hg : W.grownBy w2 v.ownBlock) : w2.ownsRow b t z u n xs :=
  own2_keep hs fun k hk => by
    have hlt := own2_lt hs hk
    have hne : some k ≠ v.ownBlock := fun he => by
      rcases hs.2 with ⟨rfl, _⟩ | ⟨g, cap, cur, rfl, hb, hh, _⟩
      · simp [Value.ownBlock] at hk
      · have e1 : k = g := by simpa [Value.ownBlock] using hk.symm
        subst e1
        exact own_blk_ne hv (show Blk W k t cur from hh) (Ne.symm ht) he.symm
    exact hg.block k hlt.2 hne
/-- The headers of a list of lists. -/
def hdrs (w : World) (b off n : Nat) : List Value := (List.range n).map fun j => (w.cell? ⟨b, off + j, none⟩).getD (.bool false)
theorem hdrs_len (w : World) (b off n : Nat) : (hdrs w b off n).length = n := by simp [hdrs]
theorem hdrs_at (w : World) (b off n j : Nat) (hj : j < n) : (hdrs w b off n)[j]? = some ((w.cell? ⟨b, off + j, none⟩).getD (.bool false)) := by
  unfold hdrs
  rw [List.getElem?_map, List.getElem?_range hj]
  rfl
/-- What the headers lie at. -/
structure Hz (w2 : World) (b off : Nat) (Ls : List (List Sy)) : Prop where
  at' : ∀ k (h : k < Ls.length), ∃ sk mk, w2.cell? ⟨b, off + k, none⟩ = some (.slice sk Ls[k].length mk) ∧ HoldsY w2 sk Ls[k] ∧ Ls[k].length ≤ mk
theorem hz_of {w2 : World} {s : Option Addr} {Ls : List (List Sy)} (h : HoldsW w2 s Ls) (hl : 0 < Ls.length) : ∃ b off, s = some ⟨b, off, none⟩ ∧ Hz w2 b off Ls := by
  rcases h with rfl | ⟨b, off, rfl, hr⟩
  · simp at hl
  · exact ⟨b, off, rfl, ⟨hr⟩⟩
theorem hz_news {w2 w : World} {b off n : Nat} {Ls : List (List Sy)} (h : Hz w2 b off Ls) (hn : n ≤ Ls.length) (hb : Below w2.heap.size w2 w) : (∀ j u, (hdrs w2 b off n)[j]? = some u → w.cell? ((⟨b, off, none⟩ : Addr).add j) = some u) ∧ ∀ u ∈ hdrs w2 b off n, u.oneCell' = true := by
  have key : ∀ j u, (hdrs w2 b off n)[j]? = some u → j < n ∧ ∃ sk m mk, u = .slice sk m mk ∧ w2.cell? ⟨b, off + j, none⟩ = some u := fun j u hu => by
    have hj : j < n := by have := (List.getElem?_eq_some_iff.1 hu).1; rwa [hdrs_len] at this
    rw [hdrs_at _ _ _ _ _ hj] at hu
    obtain ⟨sk, mk, h1, _, _⟩ := h.at' j (by omega)
    rw [h1] at hu
    simp at hu
    exact ⟨hj, sk, _, mk, hu.symm, by rw [h1, hu]⟩
  refine ⟨fun j u hu => ?_, fun u hu => ?_⟩
  · obtain ⟨hj, sk, m, mk, e0, hc⟩ := key j u hu
    have e : (⟨b, off, none⟩ : Addr).add j = ⟨b, off + j, none⟩ := by simp [Addr.add]
    rw [e]
    exact (hb.cell (p := ⟨b, off + j, none⟩) (cell_lt hc)).trans hc
  · obtain ⟨j, hj, e⟩ := List.mem_iff_getElem.1 hu
    obtain ⟨_, sk, m, mk, e2, _⟩ := key j u (by rw [List.getElem?_eq_getElem hj, e])
    rw [e2]
    rfl
theorem rej_row {w2 w7 : World} {b off base g cap n : Nat} {Ls : List (List Sy)} {sk : Option Addr} {mk : Nat} {L : List Sy} (h : Hz w2 b off Ls) (hn : n ≤ Ls.length) (hb : Below w2.heap.size w2 w7) (hown : w7.ownsRow base 35 1 (.slice (some ⟨g, 0, none⟩) (n + 1) cap) (n + 1) (hdrs w2 b off n ++ [.slice sk L.length mk])) (hY : HoldsY w7 sk L) (hm : L.length ≤ mk) : HoldsW w7 (some ⟨g, 0, none⟩) (Ls.take n ++ [L]) := by
  refine .inr ⟨g, 0, rfl, fun k hk => ?_⟩
  have htl : (Ls.take n).length = n := by rw [List.length_take]; omega
  have hk2 : k < n + 1 := by rw [List.length_append, htl] at hk; exact hk
  have hc := hown.cellAt k (by omega)
  rw [Nat.zero_add]
  by_cases hkn : k < n
  · have e1 : (Ls.take n ++ [L])[k] = Ls[k] := by rw [List.getElem_append_left (by omega), List.getElem_take]
    obtain ⟨sk', mk', h1, h2, h3⟩ := h.at' k (by omega)
    rw [List.getElem?_append_left (by rw [hdrs_len]; exact hkn), hdrs_at _ _ _ _ _ hkn, h1] at hc
    refine ⟨sk', mk', ?_, ?_, ?_⟩
    · rw [hc, e1]; rfl
    · rw [e1]; exact h2.call hb
    · rw [e1]; exact h3
  · obtain rfl : k = n := by omega
    have e1 : (Ls.take k ++ [L])[k] = L := by rw [List.getElem_append_right (by omega)]; simp
    rw [List.getElem?_append_right (by rw [hdrs_len]; exact Nat.le_refl _), hdrs_len, Nat.sub_self] at hc
    refine ⟨sk, mk, ?_, ?_, ?_⟩
    · rw [hc, e1]; rfl
    · rw [e1]; exact hY
    · rw [e1]; exact hm
theorem cellsP_set0 (l : List Sy) (a : Nat) (ha : a < l.length) (c : Int) : (cellsP l).set (a * 2) (.int .i64 c) = cellsP (l.set a (c, l[a].2)) := by
  induction l generalizing a with
  | nil => simp at ha
  | cons x l ih =>
    cases a with
    | zero => rfl
    | succ a =>
      have := ih a (by simpa using ha)
      have e : (a + 1) * 2 = a * 2 + 1 + 1 := by omega
      rw [e]
      show .int .i64 x.1 :: .int .i64 x.2 :: (cellsP l).set (a * 2) (.int .i64 c) = _
      rw [this]
      rfl
theorem cellsP_set1 (l : List Sy) (a : Nat) (ha : a < l.length) (c : Int) : (cellsP l).set (a * 2 + 1) (.int .i64 c) = cellsP (l.set a (l[a].1, c)) := by
  induction l generalizing a with
  | nil => simp at ha
  | cons x l ih =>
    cases a with
    | zero => rfl
    | succ a =>
      have := ih a (by simpa using ha)
      have e : (a + 1) * 2 + 1 = a * 2 + 1 + 1 + 1 := by omega
      rw [e]
      show .int .i64 x.1 :: .int .i64 x.2 :: (cellsP l).set (a * 2 + 1) (.int .i64 c) = _
      rw [this]
      rfl
theorem holdsY_take {w : World} {s : Option Addr} {l : List Sy} (h : HoldsY w s l) (n : Nat) : HoldsY w s (l.take n) := by
  rcases h with rfl | ⟨b, off, rfl, hr⟩
  · exact .inl (by simp)
  · refine .inr ⟨b, off, rfl, fun k hk => ?_⟩
    rw [List.length_take] at hk
    have := hr k (by omega)
    rw [List.getElem_take]
    exact this
/-- The symbols of a pass in which one is replaced, removed or appended. -/
def rejL (L : List Sy) (a : Nat) (how : Int) (d : Sy) : List Sy := if how = 0 then L.set a (30, d.2) else if how = 1 then L.set a (d.1, 2) else if how = 2 then L.take (L.length - 1) else L ++ [d]
theorem set_split (L : List Sy) (a : Nat) (ha : a < L.length) (d : Sy) : L = L.take a ++ L[a] :: L.drop (a + 1) ∧ L.set a d = L.take a ++ d :: L.drop (a + 1) := by
  constructor
  · rw [← List.drop_eq_getElem_cons ha, List.take_append_drop]
  · rw [List.set_eq_take_append_cons_drop, if_pos ha]
theorem symL_take6 (w h : Nat) (planes o : Int) (m : Mo) (q : St) (N n : Nat) (hn : n ≤ N) : (symL w h planes o m q N).take n = symL w h planes o m q n := by
  unfold symL
  rw [← List.map_take, List.take_range, Nat.min_eq_left hn]
theorem setV_r (w h : Nat) (l : List Int) (k : Nat) : (setV w h l k).r = fun _ _ => false := by
  induction k with
  | zero => rfl
  | succ k ih =>
    show (setQ _ _ _ _ _ _).r = _
    unfold setQ
    split
    · exact ih
    · exact ih
theorem val_rej (w h : Nat) (l : List Int) (o : Int) (m : Mo) (hf : fits (w : Int) (h : Int)) (hl : ∀ v ∈ l, okV v) (hp : plnN l ≤ 60) (ho : 0 ≤ o ∧ o ≤ 3) (n : Nat) (hnp : n < 3 * plnN l - 2) (Ls : List (List Sy)) (hLs : Ls = symL w h (plnN l) o m (setV w h l l.length) (3 * plnN l - 2)) (hnl : n < Ls.length) (a : Nat) (ha : a < Ls[n].length) (how : Int) :
    valC w h (plnN l) o m (Ls.take n ++ [rejL Ls[n] a how Ls[n][a]]) = 8 := by
  have hlt : (Ls.take n).length = n := by rw [List.length_take]; omega
  have hR := rdd_ok w h l o m hl hp n (by omega)
  obtain ⟨q, hq⟩ : ∃ q, q = decP w h (plnN l) o m (setV w h l l.length) n := ⟨_, rfl⟩
  have hv1 : valR w h (plnN l) o m (Ls.take n) 0 St.zero = (0, q) := by rw [hq, ← hR.val, hLs, symL_take6 _ _ _ _ _ _ _ _ (by omega)]
  have hsym : Ls[n] = symP w h (plnN l) o m (setV w h l l.length) n := by subst hLs; exact symL_at _ _ _ _ _ _ _ _ _
  have hgd := gd_sym w h (plnN l) o m (setV w h l l.length) n
  rw [← hsym] at hgd
  have hm : ∀ x y, ((setV w h l l.length).v x y).natAbs < 2 ^ plnN l := by
    have h1 : mxN l < 1152921504606846976 := mxN_lt l _ (by decide) fun v hv => by have := hl v hv; unfold okV at this; omega
    have h2 : mxN l < 2 ^ plnN l := (bit_iff (mxN l) (plnN l) (by omega)).1 (Nat.le_refl _)
    exact setV_all (fun v => v.natAbs < 2 ^ plnN l) (Nat.two_pow_pos _) w h l (fun v hv => Nat.lt_of_le_of_lt (mxN_le l v hv) h2) _
  have hr : (setV w h l l.length).r = fun _ _ => false := setV_r _ _ _ _
  obtain ⟨r1, r2⟩ := repl_sym w h (plnN l) o m (setV w h l l.length) rfl (setV_s _ _ _ _) (setV_t _ _ _ _) hr (setV_in _ _ _ _) (setV_ok _ _ _ hl _) hp hm n hnp
  rw [← hsym, ← hq] at r1 r2
  obtain ⟨L, hL⟩ : ∃ L, L = Ls[n] := ⟨_, rfl⟩
  have ha2 : a < L.length := by rw [hL]; exact ha
  have hLa : Ls[n][a] = L[a] := by simp only [hL]
  rw [hLa]
  rw [← hL] at hgd r1 r2 ⊢
  have hfit := hgd L[a] (List.getElem_mem ha2)
  obtain ⟨hb, c, hc1, hc2, hc3⟩ := hfit
  have hcx : -1 ≤ (L[a]).1 ∧ (L[a]).1 ≤ 18 := by
    rw [hc3]
    have := raw_c2 c ⟨hc1, hc2⟩ (ppR w h (n : Int) (plnN l) o m)
    exact this.2
  obtain ⟨s1, s2⟩ := set_split L a ha2 (30, (L[a]).2)
  obtain ⟨-, s3⟩ := set_split L a ha2 ((L[a]).1, 2)
  have he : replE (replS w h (plnN l) o m q n (rejL L a how L[a])) = 8 := by
    unfold rejL
    split
    · rw [s2]
      exact rej_in L[a] _ (L.drop (a + 1)) _ (fun c b Z' hz hf => by
        simp at hz
        intro hf2
        rw [← hz.1] at hf2
        have h1 := hf.1
        have h2 := hf2.1
        simp at h2
        omega) (by rw [← s1]; exact r2)
    split
    · rw [s3]
      exact rej_in L[a] _ (L.drop (a + 1)) _ (fun c b Z' hz hf => by
        simp at hz
        intro hf2
        rw [← hz.1] at hf2
        have h2 := hf2.2
        simp at h2) (by rw [← s1]; exact r2)
    split
    · have hne : L ≠ [] := fun h => by rw [h] at ha2; simp at ha2
      have e1 : L = L.take (L.length - 1) ++ [L.getLast hne] := by
        have := List.dropLast_concat_getLast hne
        rw [List.dropLast_eq_take] at this
        exact this.symm
      have := rej_in (w := w) (h := h) (planes := (plnN l : Int)) (o := o) (m := m) (q := q) (k := n) (L.getLast hne) (L.take (L.length - 1)) [] [] (fun c b Z' hz => by cases hz) (by rw [← e1]; exact r2)
      rw [List.append_nil] at this
      exact this
    · exact rej_more L[a] L r2 r1
  have hfin : (valR w h (plnN l) o m (Ls.take n ++ [rejL L a how L[a]]) 0 St.zero).1 = 8 := by
    rw [valR_app _ _ _ _ (by rw [hv1]), hv1, Nat.zero_add, hlt, valR_bad _ _ _ (by rw [he]; decide), he]
  have hll : (Ls.take n ++ [rejL L a how L[a]]).length = n + 1 := by rw [List.length_append, hlt]; rfl
  obtain ⟨z1, z2⟩ := valC_is (planes := (plnN l : Int)) (m := m) (Ls := Ls.take n ++ [rejL L a how L[a]]) hf (by omega) (by rw [hll]; omega) ho _ (Prod.ext rfl rfl : valR w h (plnN l) o m (Ls.take n ++ [rejL L a how L[a]]) 0 St.zero = ((valR w h (plnN l) o m (Ls.take n ++ [rejL L a how L[a]]) 0 St.zero).1, (valR w h (plnN l) o m (Ls.take n ++ [rejL L a how L[a]]) 0 St.zero).2))
  rw [z1, hfin]
end Go.Proofs.YtbhjapgioaiocaaDoor
