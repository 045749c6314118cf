/-
  Layer 16: the reference: a run length's column; its cleanup with skipped rows is the cleanup by columns.
  Layer 16: the reference: the run length.
  Layer 16: the reference's cleanup pass.
-/
import Derived.Test.YtbhjapgioaiocaaDoorMJ
set_option maxRecDepth 100000
namespace Go.Proofs.YtbhjapgioaiocaaDoor
open Go.RowKit

def yrunQ (p : Pp) (q : St) (x y : Nat) : Bool := decide (y % 4 = 0) && quietQ p q x y (min 4 (p.h - y))
theorem yrunQ_no (p : Pp) (q : St) (x y : Nat) (h : ((y : Int) % 4 ≠ 0 ∨ (y : Int) + 4 > (p.h : Int))) (hy : y < p.h) : yrunQ p q x y = false := by
  unfold yrunQ quietQ
  rcases h with h | h
  · rw [decide_eq_false (show ¬ y % 4 = 0 by omega)]; rfl
  · rw [decide_eq_false (show ¬ min 4 (p.h - y) = 4 by omega)]; simp
theorem yrunQ_is (p : Pp) (q : St) (x y : Nat) (h : (y : Int) % 4 = 0) (h2 : (y : Int) + 4 ≤ (p.h : Int)) : yrunQ p q x y = quietQ p q x y 4 := by
  unfold yrunQ
  rw [show min 4 (p.h - y) = 4 by omega, decide_eq_true (show y % 4 = 0 by omega)]; rfl
set_option maxHeartbeats 4000000 in
theorem yrun_c {W0 W : World} {a : Ady} {bits : List Int} {p : Pp} {m : Mo} {e : St × List Sy} (H : Yc W0 W a bits p m e) (x y : Nat) (hx : x < p.w) (hy : y < p.h) : Calls Tryd.prog 138 #[.pointer (some ⟨a.P, 0, none⟩), .int .i64 (x : Int), .int .i64 (y : Int), .int .i64 (p.h : Int)] W fun E W' => E = .returned (.bool (yrunQ p e.1 x y)) ∧ Below W.heap.size W W' := by
  have hh : p.h ≤ 64 := H.len.2
  have wt : IntKind.i64.wrap ((y : Int) + 4) = (y : Int) + 4 := by rw [IntWalk.i64_left]; unfold wrap64; omega
  have HH := Lib.hid H
  have HX := Lib.hid hx
  have B0 := Lib.hid (Below.refl W.heap.size W)
  by_cases h1 : (y : Int) % 4 = 0
  · by_cases h2 : (y : Int) + 4 > (p.h : Int)
    · rw [yrunQ_no p e.1 x y (.inr h2) hy]
      clear H
      go_enter Tryd.func138, Tryd.ntmps138
      go_wp2_with fail
      go_ret
      exact ⟨rfl, B0.out⟩
    · rw [yrunQ_is p e.1 x y h1 (by omega)]
      have HNN := Lib.hid (show y + 4 ≤ p.h by omega)
      obtain ⟨Q, hQ⟩ : ∃ Q, Q = quietQ p e.1 x y 4 := ⟨_, rfl⟩
      rw [← hQ]
      have HQ := Lib.hid hQ
      clear H hx hQ
      go_enter Tryd.func138, Tryd.ntmps138
      go_wp2_with fail
      go_loopw [9] (fun i wr => ∃ k : Nat, k ≤ 4 ∧ i = .int .i64 (k : Int) ∧ Hid (∀ r : Nat, y ≤ r → r < y + k → busyQ p e.1 x r = false) ∧ Hid (Below W.heap.size W wr)) (fun i _ => (4 - (intOf i).toNat))
      case atStart => exact ⟨0, by omega, rfl, fun r h1 h2 => by omega, B0.out⟩
      case round =>
        obtain ⟨k, hk, rfl, hj, hD⟩ := hrel
        have H1 := Lib.hid (HH.out.below hD.out)
        obtain ⟨c0, -, -, -, -, -⟩ := H1.out.cells
        by_cases hlt : (k : Int) < 4
        · obtain ⟨v, hv⟩ : ∃ v : Nat, v = y + k := ⟨_, rfl⟩
          have hin : inB p.w p.h (x : Int) (v : Int) := by have := HX.out; have := HNN.out; unfold inB; omega
          obtain ⟨s, hs⟩ : ∃ s, s = e.1.s (x : Int) (v : Int) := ⟨_, rfl⟩
          obtain ⟨t, ht⟩ : ∃ t, t = e.1.t (x : Int) (v : Int) := ⟨_, rfl⟩
          obtain ⟨nn, hnn⟩ : ∃ t, t = nbH e.1 (x : Int) (v : Int) + nbV e.1 (x : Int) (v : Int) p.c + nbD e.1 (x : Int) (v : Int) p.c := ⟨_, rfl⟩
          have k1 := rsignificant_c H1.out.rb (x : Int) (v : Int)
          have k2 := fun W (K : Yc W0 W a bits p m e) => rtouched_c K.rb (x : Int) (v : Int)
          have k3 := fun W (K : Yc W0 W a bits p m e) => ynear_c K (x : Int) (v : Int) hin
          rw [← hs] at k1
          rw [← ht] at k2
          rw [← hnn] at k3
          have HBU := Lib.hid (show busyQ p e.1 x v = (s || t || decide (0 < nn)) by unfold busyQ nearQ; rw [hs, ht, hnn])
          have wj : IntKind.i64.wrap ((k : Int) + 1) = ((k + 1 : Nat) : Int) := by rw [IntWalk.i64_left]; unfold wrap64; omega
          have wy : IntKind.i64.wrap ((y : Int) + (k : Int)) = (v : Int) := by rw [IntWalk.i64_left]; unfold wrap64; omega
          have hbusy : (s || t || decide (0 < nn)) = true → Q = false := fun h => by
            rw [HQ.out]
            exact quiet_no _ _ _ _ _ v (by omega) (by omega) (by rw [HBU.out, h])
          have HBQ := Lib.hid hbusy
          have HV := Lib.hid hv
          clear hs ht hnn hin hbusy hv
          cases s with
          | true =>
            have e1 := HBQ.out (by simp)
            go_wp2_with (first | (go_at_call 65; (with_reducible refine k1.mono ?_); rintro e wn ⟨rfl, hb⟩; have D2 := Lib.hid (below_call hD.out hb); clear hb))
            go_ret
            exact ⟨by rw [e1]; rfl, D2.out⟩
          | false =>
            cases t with
            | true =>
              have e1 := HBQ.out (by simp)
              go_wp2_with (first | (go_at_call 65; (with_reducible refine k1.mono ?_); rintro e wn ⟨rfl, hb⟩; have D2 := Lib.hid (below_call hD.out hb); have H2 := Lib.hid (H1.out.below hb); clear hb; obtain ⟨d0, -, -, -, -, -⟩ := H2.out.cells; have k2 := k2 _ H2.out) | (go_at_call 67; (with_reducible refine k2.mono ?_); rintro e wn ⟨rfl, hb⟩; have D3 := Lib.hid (below_call D2.out hb); clear hb))
              go_ret
              exact ⟨by rw [e1]; rfl, D3.out⟩
            | false =>
              by_cases hn0 : 0 < nn
              · have e1 := HBQ.out (by simp; omega)
                go_wp2_with (first | (go_at_call 65; (with_reducible refine k1.mono ?_); rintro e wn ⟨rfl, hb⟩; have D2 := Lib.hid (below_call hD.out hb); have H2 := Lib.hid (H1.out.below hb); clear hb; obtain ⟨d0, -, -, -, -, -⟩ := H2.out.cells; have k2 := k2 _ H2.out) | (go_at_call 67; (with_reducible refine k2.mono ?_); rintro e wn ⟨rfl, hb⟩; have D3 := Lib.hid (below_call D2.out hb); have H3 := Lib.hid (H2.out.below hb); have k3 := k3 _ H3.out; clear hb) | (go_at_call 135; (with_reducible refine k3.mono ?_); rintro e wn ⟨rfl, hb⟩; have D4 := Lib.hid (below_call D3.out hb); clear hb))
                go_ret
                exact ⟨by rw [e1]; rfl, D4.out⟩
              · clear HBQ
                have HN0 := Lib.hid hn0
                go_wp2_with (first | (go_at_call 65; (with_reducible refine k1.mono ?_); rintro e wn ⟨rfl, hb⟩; have D2 := Lib.hid (below_call hD.out hb); have H2 := Lib.hid (H1.out.below hb); clear hb; obtain ⟨d0, -, -, -, -, -⟩ := H2.out.cells; have k2 := k2 _ H2.out) | (go_at_call 67; (with_reducible refine k2.mono ?_); rintro e wn ⟨rfl, hb⟩; have D3 := Lib.hid (below_call D2.out hb); have H3 := Lib.hid (H2.out.below hb); have k3 := k3 _ H3.out; clear hb) | (go_at_call 135; (with_reducible refine k3.mono ?_); rintro e wn ⟨rfl, hb⟩; have D4 := Lib.hid (below_call D3.out hb); clear hb))
                go_roundw
                case rel =>
                  refine ⟨k + 1, by omega, by go_num, fun r h1 h2 => ?_, D4⟩
                  rcases Nat.lt_or_ge r (y + k) with h | h
                  · exact hj.out r h1 h
                  · obtain rfl : r = v := by have := HV.out; omega
                    rw [HBU.out, decide_eq_false (show ¬ 0 < nn by have := HN0.out; omega)]; rfl
                case measure => simp [intOf]; omega
        · obtain rfl : k = 4 := by omega
          have e1 : Q = true := by
            rw [HQ.out, quiet_is _ _ _ _ _ hj.out]
            rfl
          go_wp2_with fail
          go_ret
          exact ⟨by first | rfl | (rw [e1]; rfl), hD.out⟩
  · rw [yrunQ_no p e.1 x y (.inl h1) hy]
    clear H
    go_enter Tryd.func138, Tryd.ntmps138
    go_wp2_with fail
    go_ret
    exact ⟨rfl, B0.out⟩
section
variable {σ : Type} {A : Orc σ} {p : Pp}
def yrlN (p : Pp) (A : Orc σ) (e : St × σ) : Nat := if askB p A e 17 = 0 then 4 else drowN p A (askE p A e 17) + 1
def yrlS (p : Pp) (A : Orc σ) (e : St × σ) (x top : Nat) : St × σ := if askB p A e 17 = 0 then askE p A e 17 else drunS p A (askE p A e 17) x top
def dstK (p : Pp) (A : Orc σ) (z : Nat × (St × σ)) (q : Int × Int) : Nat × (St × σ) :=
  if 0 < z.1 then (z.1 - 1, z.2) else if yrunQ p z.2.1 q.1.toNat q.2.toNat = true then (yrlN p A z.2 - 1, yrlS p A z.2 q.1.toNat q.2.toNat) else (0, dclnS p A z.2 q)
theorem yrlN_in (e : St × σ) : 1 ≤ yrlN p A e ∧ yrlN p A e ≤ 4 := by
  have := drowN_lt p A (askE p A e 17)
  unfold yrlN
  split <;> omega
theorem rch_yrl (e : St × σ) (x top : Nat) : Rch A 4 e.2 (yrlS p A e x top).2 := by
  unfold yrlS
  split
  · exact (rch_ask e 17).mono (by omega)
  · exact (rch_ask e 17).trans (rch_run _ x top)
theorem rch_stK (z : Nat × (St × σ)) (q : Int × Int) : Rch A 4 z.2.2 (dstK p A z q).2.2 := by
  unfold dstK
  split
  · exact .refl _ _
  · split
    · exact rch_yrl _ _ _
    · exact (rch_cln _ _).mono (by omega)
theorem dstK_in (z : Nat × (St × σ)) (q : Int × Int) (h : z.1 ≤ 3) : (dstK p A z q).1 ≤ 3 := by
  unfold dstK
  split
  · show z.1 - 1 ≤ 3; omega
  · split
    · have := yrlN_in (p := p) (A := A) z.2
      show yrlN _ _ _ - 1 ≤ 3; omega
    · show 0 ≤ 3; omega
theorem dstK_all (l : List (Int × Int)) (z : Nat × (St × σ)) (h : z.1 ≤ 3) : (l.foldl (dstK p A) z).1 ≤ 3 := by
  induction l generalizing z with
  | nil => exact h
  | cons a l ih => exact ih _ (dstK_in z a h)
theorem dstK_skip (l : List (Int × Int)) (k : Nat) (e : St × σ) (h : l.length ≤ k) : l.foldl (dstK p A) (k, e) = (k - l.length, e) := by
  induction l generalizing k with
  | nil => rfl
  | cons a l ih =>
    rw [List.length_cons] at h
    rw [List.foldl_cons, show dstK p A (k, e) a = (k - 1, e) by unfold dstK; rw [if_pos (show 0 < k by omega)], ih _ (by omega), List.length_cons]
    congr 1
    omega
theorem dstK_rest (l : List (Int × Int)) (e : St × σ) (h : ∀ q ∈ l, q.2.toNat % 4 ≠ 0) : l.foldl (dstK p A) (0, e) = (0, l.foldl (dclnS p A) e) := by
  induction l generalizing e with
  | nil => rfl
  | cons a l ih =>
    have h1 : dstK p A (0, e) a = (0, dclnS p A e a) := by
      have : yrunQ p e.1 a.1.toNat a.2.toNat = false := by
        unfold yrunQ
        rw [decide_eq_false (h a List.mem_cons_self)]; rfl
      unfold dstK
      rw [if_neg (show ¬ 0 < 0 by omega)]
      simp only [this]
      rfl
    rw [List.foldl_cons, h1, ih _ fun q hq => h q (List.mem_cons_of_mem _ hq), List.foldl_cons]
theorem ycolP_cons (x top n : Nat) (h : 0 < n) : colP x top n = ((x : Int), (top : Int)) :: colP x (top + 1) (n - 1) := by
  obtain ⟨m, rfl⟩ : ∃ m, n = m + 1 := ⟨n - 1, by omega⟩
  unfold colP
  rw [List.range_succ_eq_map, List.map_cons, List.map_map, Nat.add_sub_cancel]
  congr 1
  apply List.map_congr_left
  intro i _
  show ((x : Int), ((top + (i + 1) : Nat) : Int)) = ((x : Int), ((top + 1 + i : Nat) : Int))
  rw [show top + (i + 1) = top + 1 + i by omega]
theorem ycolP_mod (x top n : Nat) (h1 : 0 < top % 4) (h2 : top % 4 + n ≤ 4) : ∀ q ∈ colP x top n, q.2.toNat % 4 ≠ 0 := by
  intro q hq
  obtain ⟨Y, rfl, h3, h4⟩ := colP_in x top n q hq
  show ((Y : Int)).toNat % 4 ≠ 0
  omega
theorem dstK_col (e : St × σ) (x s : Nat) (n : Nat) (hn : n = min 4 (p.h - 4 * s)) (h0 : 0 < n) : (colP x (4 * s) n).foldl (dstK p A) (0, e) = (0, dcolS p A e x (4 * s) n) := by
  have hQ : yrunQ p e.1 x (4 * s) = quietQ p e.1 x (4 * s) n := by
    unfold yrunQ
    rw [decide_eq_true (show 4 * s % 4 = 0 by omega), ← hn]; rfl
  have hst : dstK p A (0, e) ((x : Int), ((4 * s : Nat) : Int)) = if quietQ p e.1 x (4 * s) n = true then (yrlN p A e - 1, yrlS p A e x (4 * s)) else (0, dclnS p A e ((x : Int), ((4 * s : Nat) : Int))) := by
    unfold dstK
    rw [if_neg (show ¬ 0 < 0 by omega), ← hQ]
    rfl
  rw [ycolP_cons x (4 * s) n h0, List.foldl_cons, hst]
  by_cases hq : quietQ p e.1 x (4 * s) n = true
  · have hn4 : n = 4 := by unfold quietQ at hq; simp at hq; exact hq.2
    obtain ⟨r1, r2⟩ := yrlN_in (p := p) (A := A) e
    have eD : dcolS p A e x (4 * s) n = (colP x (4 * s + yrlN p A e) (n - yrlN p A e)).foldl (dclnS p A) (yrlS p A e x (4 * s)) := by
      unfold dcolS yrlN yrlS
      rw [if_pos hq]
      by_cases h17 : askB p A e 17 = 0
      · rw [if_pos h17, if_pos h17, if_pos h17, hn4]
        rfl
      · rw [if_neg h17, if_neg h17, if_neg h17]
    rw [if_pos hq, eD]
    generalize yrlN p A e = r at *
    generalize yrlS p A e x (4 * s) = e1 at *
    rw [colP_split x (4 * s + 1) (n - 1) (r - 1) (by omega), List.foldl_append, dstK_skip (colP x (4 * s + 1) (r - 1)) (r - 1) e1 (by rw [colP_len]; omega), colP_len, Nat.sub_self, dstK_rest, show 4 * s + 1 + (r - 1) = 4 * s + r by omega, show n - 1 - (r - 1) = n - r by omega]
    rcases Nat.lt_or_ge r 4 with h | h
    · exact ycolP_mod _ _ _ (by omega) (by omega)
    · intro q hq
      rw [show n - 1 - (r - 1) = 0 by omega] at hq
      simp [colP] at hq
  · have eD : dcolS p A e x (4 * s) n = (colP x (4 * s) n).foldl (dclnS p A) e := by
      unfold dcolS
      rw [if_neg hq]
    rw [if_neg hq, eD, dstK_rest _ _ (ycolP_mod _ _ _ (by omega) (by omega)), ycolP_cons x (4 * s) n h0]
    rfl
theorem dstK_str (e : St × σ) (s n : Nat) (hn : n = min 4 (p.h - 4 * s)) (h0 : 0 < n) (k : Nat) : (strP (4 * s) n k).foldl (dstK p A) (0, e) = (0, dstrS p A e (4 * s) n k) := by
  induction k with
  | zero => rfl
  | succ k ih =>
    have e1 : strP (4 * s) n (k + 1) = strP (4 * s) n k ++ colP k (4 * s) n := by unfold strP; rw [List.range_succ, List.flatMap_append]; simp
    rw [e1, List.foldl_append, ih, dstK_col _ k s n hn h0]
    unfold dstrS
    rw [foldl_rng]
theorem dstK_scn (e : St × σ) (k : Nat) (hk : k ≤ (p.h + 3) / 4) : (scnP p.w p.h k).foldl (dstK p A) (0, e) = (0, dclS p A e k) := by
  induction k with
  | zero => rfl
  | succ k ih =>
    have e1 : scnP p.w p.h (k + 1) = scnP p.w p.h k ++ strP (4 * k) (min 4 (p.h - 4 * k)) p.w := by unfold scnP; rw [List.range_succ, List.flatMap_append]; simp
    rw [e1, List.foldl_append, ih (by omega), dstK_str _ k _ rfl (by omega)]
    unfold dclS
    rw [foldl_rng]
theorem dstK_scan (e : St × σ) : (scan p.w p.h).foldl (dstK p A) (0, e) = (0, dclS p A e ((p.h + 3) / 4)) := dstK_scn e _ (Nat.le_refl _)
end
end Go.Proofs.YtbhjapgioaiocaaDoor
set_option maxRecDepth 100000
namespace Go.Proofs.YtbhjapgioaiocaaDoor
open Go.RowKit

set_option maxHeartbeats 4000000 in
theorem yrunl_c {W0 W : World} {a : Ady} {bits : List Int} {p : Pp} {m : Mo} {e : St × List Sy} (H : Yc W0 W a bits p m e) (x top : Nat) (hx : x < p.w) (hn : top + 4 ≤ p.h) (hl : e.2.length ≤ 999990) : Calls Tryd.prog 139 #[.pointer (some ⟨a.P, 0, none⟩), .int .i64 (x : Int), .int .i64 (top : Int)] W fun E W' => E = .returned (.int .i64 ((yrlN p (bitO bits) e : Nat) : Int)) ∧ Yc W0 W' a bits p m (yrlS p (bitO bits) e x top) ∧ Kt W W' := by
  obtain ⟨-, hh⟩ := H.len
  have HH := Lib.hid H
  obtain ⟨b1, hb1⟩ : ∃ b, b = askB p (bitO bits) e 17 := ⟨_, rfl⟩
  obtain ⟨e1, he1⟩ : ∃ b, b = askE p (bitO bits) e 17 := ⟨_, rfl⟩
  obtain ⟨b2, hb2⟩ : ∃ b, b = askB p (bitO bits) e1 18 := ⟨_, rfl⟩
  obtain ⟨e2, he2⟩ : ∃ b, b = askE p (bitO bits) e1 18 := ⟨_, rfl⟩
  obtain ⟨b3, hb3⟩ : ∃ b, b = askB p (bitO bits) e2 18 := ⟨_, rfl⟩
  obtain ⟨e3, he3⟩ : ∃ b, b = askE p (bitO bits) e2 18 := ⟨_, rfl⟩
  obtain ⟨r, hr⟩ : ∃ r, r = drowN p (bitO bits) e1 := ⟨_, rfl⟩
  have hr4 : r < 4 := by rw [hr]; exact drowN_lt _ _ _
  have i2 : b2 = 0 ∨ b2 = 1 := by rw [hb2]; exact askB_in _ _ _ _
  have i3 : b3 = 0 ∨ b3 = 1 := by rw [hb3]; exact askB_in _ _ _ _
  have hr2 : 2 * b2 + b3 = (r : Int) := by
    rw [hr]
    unfold drowN
    rw [← hb2, ← he2, ← hb3]
    omega
  have eN : yrlN p (bitO bits) e = if b1 = 0 then 4 else r + 1 := by unfold yrlN; rw [← hb1, ← he1, ← hr]
  have eS : yrlS p (bitO bits) e x top = if b1 = 0 then e1 else dsignS p (bitO bits) e3 (x : Int) ((top + r : Nat) : Int) := by
    unfold yrlS drunS
    rw [← hb1, ← he1, ← hr, ← he2, ← he3]
  have l1 : e1.2.length ≤ 999991 := by rw [he1]; show (bitO bits e.2 (cxP p 17)).2.length ≤ _; rw [bitO_len]; omega
  have l2 : e2.2.length ≤ 999992 := by rw [he2]; show (bitO bits e1.2 (cxP p 18)).2.length ≤ _; rw [bitO_len]; omega
  have l3 : e3.2.length ≤ 999993 := by rw [he3]; show (bitO bits e2.2 (cxP p 18)).2.length ≤ _; rw [bitO_len]; omega
  have k1 := yask_c H 17 (by omega)
  have k2 := fun W (K : Yc W0 W a bits p m e1) => yask_c K 18 (by omega)
  have k3 := fun W (K : Yc W0 W a bits p m e2) => yask_c K 18 (by omega)
  have k4 := fun W (K : Yc W0 W a bits p m e3) => ysign_c K (x : Int) ((top + r : Nat) : Int) (by unfold inB; omega) (by omega)
  rw [← hb1, ← he1] at k1
  rw [← hb2, ← he2] at k2
  rw [← hb3, ← he3] at k3
  rw [eN, eS]
  have hb01 : b1 = 0 ∨ b1 = 1 := by rw [hb1]; exact askB_in _ _ _ _
  have w1 : IntKind.i64.wrap (2 * b2) = 2 * b2 := by rw [IntWalk.i64_left]; unfold wrap64; omega
  have w2 : IntKind.i64.wrap (2 * b2 + b3) = (r : Int) := by rw [IntWalk.i64_left]; unfold wrap64; omega
  have w3 : IntKind.i64.wrap ((top : Int) + (r : Int)) = ((top + r : Nat) : Int) := by rw [IntWalk.i64_left]; unfold wrap64; omega
  have w4 : IntKind.i64.wrap ((r : Int) + 1) = ((r + 1 : Nat) : Int) := by rw [IntWalk.i64_left]; unfold wrap64; omega
  clear eN eS hb1 he1 hb2 he2 hb3 he3 hr l1 l2 l3 H hx hn hl hh hr2 i2 i3
  generalize dsignS p (bitO bits) e3 (x : Int) ((top + r : Nat) : Int) = e4 at *
  generalize ((top + r : Nat) : Int) = yr at *
  rcases hb01 with rfl | rfl
  · rw [if_pos rfl, if_pos rfl]
    go_enter Tryd.func139, Tryd.ntmps139
    go_wp2_with (first | (go_at_call 137; (with_reducible refine k1.mono ?_); rintro e w2 ⟨rfl, H2, K2⟩; have H2 := Lib.hid H2; have K2 := Lib.hid K2))
    go_ret
    exact ⟨rfl, H2.out, K2.out⟩
  · rw [if_neg (by decide), if_neg (by decide)]
    go_enter Tryd.func139, Tryd.ntmps139
    go_wp2_with (first | (go_at_call 137; first | ((with_reducible refine k1.mono ?_); rintro e w2 ⟨rfl, H2, K2⟩; have H2 := Lib.hid H2; have K2 := Lib.hid K2; have k2 := k2 _ H2.out) | ((with_reducible refine k2.mono ?_); rintro e w3 ⟨rfl, H3, K3⟩; have H3 := Lib.hid H3; have K3 := Lib.hid (K2.out.trans K3); have k3 := k3 _ H3.out) | ((with_reducible refine k3.mono ?_); rintro e w4 ⟨rfl, H4, K4⟩; have H4 := Lib.hid H4; have K4 := Lib.hid (K3.out.trans K4); have k4 := k4 _ H4.out)) | (go_at_call 144; (with_reducible refine k4.mono ?_); rintro e w5 ⟨rfl, H6, K6⟩; have H6 := Lib.hid H6; have K6 := Lib.hid (K4.out.trans K6)))
    go_ret
    exact ⟨rfl, H6.out, K6.out⟩
end Go.Proofs.YtbhjapgioaiocaaDoor
set_option maxRecDepth 100000
namespace Go.Proofs.YtbhjapgioaiocaaDoor
open Go.RowKit

/-- What a cleanup pass leaves. -/
def YB (W0 W : World) (a : Ady) (bits : List Int) (p : Pp) (m : Mo) (z : (St × List Sy) × Bool) (E : Ending) (W' : World) : Prop := E = .returned (.bool z.2) ∧ Yc W0 W' a bits p m z.1 ∧ Kt W W'
set_option maxHeartbeats 8000000 in
theorem ycleanp_c {W0 W : World} {a : Ady} {bits : List Int} {p : Pp} {m : Mo} {e : St × List Sy} (H : Yc W0 W a bits p m e) (hl : e.2.length ≤ 900000) (sc : Option Addr) (cap : Nat) (hP : HoldsP W sc (scan p.w p.h)) : Calls Tryd.prog 122 #[.pointer (some ⟨a.P, 0, none⟩), .slice sc (scan p.w p.h).length cap, .int .i64 (p.h : Int)] W (YB W0 W a bits p m (dendS p (bitO bits) m.y (doffS p (dclS p (bitO bits) e ((p.h + 3) / 4)) (scan p.w p.h)))) := by
  obtain ⟨hw, hh⟩ := H.len
  have HSL := Lib.hid (scan_l p.w p.h hw hh)
  have HIN := Lib.hid (fun z (hz : z ∈ scan p.w p.h) => scan_in hz)
  have HSC := Lib.hid (dstK_scan (p := p) (A := bitO bits) e)
  have HL := Lib.hid hl
  have HH := Lib.hid H
  have HP := Lib.hid hP
  generalize scan p.w p.h = L at *
  generalize dclS p (bitO bits) e ((p.h + 3) / 4) = eC at *
  obtain ⟨eF, hF⟩ : ∃ z, z = dendS p (bitO bits) m.y (doffS p eC L) := ⟨_, rfl⟩
  rw [← hF]
  have HCL := Lib.hid hF
  clear hF
  clear H hw hh hl hP
  go_enter Tryd.func122, Tryd.ntmps122
  go_wp2_with fail
  go_loopw [7, 16] (fun t i wr => ∃ (k v : Nat), k ≤ L.length ∧ i = .int .i64 (k : Int) ∧ t = .int .i64 (v : Int) ∧ Hid (((L.take k).foldl (dstK p (bitO bits)) (0, e)).1 = v) ∧ Hid (Yc W0 wr a bits p m ((L.take k).foldl (dstK p (bitO bits)) (0, e)).2) ∧ Hid (HoldsP wr sc L) ∧ Hid (Kt W wr)) (fun _ i _ => (L.length - (intOf i).toNat))
  case atStart => exact ⟨0, 0, by omega, rfl, rfl, rfl, HH.out, HP.out, Kt.refl _⟩
  case round =>
    obtain ⟨k, v, hk, rfl, rfl, hV, hE, hH, hK⟩ := hrel
    by_cases hlt : k < L.length
    · obtain ⟨b, rfl, p0, p1⟩ := hH.out.at hlt
      have hz := HIN.out _ (List.getElem_mem hlt)
      have hnext := foldl_take (dstK p (bitO bits)) (0, e) L k hlt
      have hlen3 := dstK_all (p := p) (A := bitO bits) (L.take k) (0, e) (by show 0 ≤ 3; omega)
      have hlen := (rch_fold (fun z : Nat × (St × List Sy) => z.2.2) (dstK p (bitO bits)) 4 (rch_stK (p := p)) (L.take k) (0, e)).cnt (f := List.length) (bitO_one bits)
      obtain ⟨z1, hz1⟩ : ∃ z1, z1 = (L.take k).foldl (dstK p (bitO bits)) (0, e) := ⟨_, rfl⟩
      rw [← hz1] at hE hV hnext hlen hlen3
      obtain ⟨v1, e1⟩ := z1
      have hV1 := hV.out
      simp only at hV1
      subst hV1
      simp only at hE hlen hlen3
      have hv3 : v1 ≤ 3 := hlen3
      have hle : e1.2.length ≤ 999980 := by
        have h1 := hlen
        rw [List.length_take] at h1
        have := HL.out
        have := HSL.out
        omega
      obtain ⟨z, hz0⟩ : ∃ z, z = L[k] := ⟨_, rfl⟩
      rw [← hz0] at hz hnext p0 p1
      obtain ⟨x, y⟩ := z
      simp only at p0 p1 hz
      have wk : IntKind.i64.wrap ((k : Int) + 1) = ((k + 1 : Nat) : Int) := by have := HSL.out; rw [IntWalk.i64_left]; unfold wrap64; omega
      have HLT := Lib.hid hlt
      clear hz0 hz1 hlen hlen3 hV
      obtain ⟨X, hX⟩ : ∃ X, X = x.toNat := ⟨_, rfl⟩
      obtain ⟨Y, hY⟩ : ∃ Y, Y = y.toNat := ⟨_, rfl⟩
      have hst0 : dstK p (bitO bits) (v1, e1) (x, y) = if 0 < v1 then (v1 - 1, e1) else if yrunQ p e1.1 X Y = true then (yrlN p (bitO bits) e1 - 1, yrlS p (bitO bits) e1 X Y) else (0, dclnS p (bitO bits) e1 (x, y)) := by rw [hX, hY]; rfl
      rw [hst0] at hnext
      have hxX : (x : Int) = (X : Int) := by unfold inB at hz; omega
      have hyY : (y : Int) = (Y : Int) := by unfold inB at hz; omega
      clear hst0 hX hY
      by_cases hv0 : 0 < v1
      · rw [if_pos hv0] at hnext
        have HNX := Lib.hid hnext
        have wv : IntKind.i64.wrap ((v1 : Int) - 1) = ((v1 - 1 : Nat) : Int) := by rw [IntWalk.i64_left]; unfold wrap64; omega
        clear hnext hxX hyY hz
        have hv0' : (0 : Int) < (v1 : Int) := by omega
        go_wp2_with fail
        have R1 := Lib.hid (Ry.begin x y hE.out hH.out hK.out)
        clear p0 p1
        generalize wr.alloc (.cells #[.int .i64 x, .int .i64 y] 113) = W1 at *
        generalize wr.heap.size = g at *
        go_roundw
        case rel =>
          refine ⟨k + 1, v1 - 1, HLT.out, by go_num, rfl, by rw [HNX.out]; exact rfl, ?_, R1.out.hp, R1.out.kt⟩
          rw [HNX.out]
          exact R1.out.ec
        case measure => have := HLT.out; simp [intOf]; omega
      · obtain rfl : v1 = 0 := by omega
        rw [if_neg hv0] at hnext
        obtain ⟨Q, hQ⟩ : ∃ Q, Q = yrunQ p e1.1 X Y := ⟨_, rfl⟩
        obtain ⟨RN, hRN⟩ : ∃ Q, Q = yrlN p (bitO bits) e1 := ⟨_, rfl⟩
        obtain ⟨RS, hRS⟩ : ∃ Q, Q = yrlS p (bitO bits) e1 X Y := ⟨_, rfl⟩
        have kr : ∀ W, Yc W0 W a bits p m e1 → Calls Tryd.prog 138 #[.pointer (some ⟨a.P, 0, none⟩), .int .i64 x, .int .i64 y, .int .i64 (p.h : Int)] W fun E W' => E = .returned (.bool Q) ∧ Below W.heap.size W W' := fun W K => by
          rw [hQ, hxX, hyY]
          exact yrun_c K X Y (by unfold inB at hz; omega) (by unfold inB at hz; omega)
        have kl : Q = true → ∀ W, Yc W0 W a bits p m e1 → Calls Tryd.prog 139 #[.pointer (some ⟨a.P, 0, none⟩), .int .i64 x, .int .i64 y] W fun E W' => E = .returned (.int .i64 (RN : Int)) ∧ Yc W0 W' a bits p m RS ∧ Kt W W' := fun hq W K => by
          have h4 : Y + 4 ≤ p.h := by
            rw [hQ] at hq
            unfold yrunQ quietQ at hq
            simp at hq
            omega
          rw [hRN, hRS, hxX, hyY]
          exact yrunl_c K X Y (by unfold inB at hz; omega) h4 (by omega)
        have hrn : 1 ≤ RN ∧ RN ≤ 4 := by rw [hRN]; exact yrlN_in _
        rw [← hQ, ← hRN, ← hRS] at hnext
        have hcl : dclnS p (bitO bits) e1 (x, y) = if (e1.1.s x y || e1.1.t x y) = true then e1 else drestS p (bitO bits) e1 x y := rfl
        clear hQ hRN hRS hxX hyY
        cases Q with
        | true =>
          rw [if_pos rfl] at hnext
          have HNX := Lib.hid hnext
          have kq := kl rfl
          clear kl
          have wv : IntKind.i64.wrap ((RN : Int) - 1) = ((RN - 1 : Nat) : Int) := by rw [IntWalk.i64_left]; unfold wrap64; omega
          clear hnext hcl hz hrn
          go_wp2_with fail
          have R1 := Lib.hid (Ry.begin x y hE.out hH.out hK.out)
          clear p0 p1
          generalize wr.alloc (.cells #[.int .i64 x, .int .i64 y] 113) = W1 at *
          generalize wr.heap.size = g at *
          obtain ⟨d0, b0, b1⟩ := R1.out.cell
          have kr1 := kr _ R1.out.ec
          go_wp2_with (first | (go_at_call 138; (with_reducible refine kr1.mono ?_); rintro e wn ⟨rfl, hb⟩; have R2 := Lib.hid (R1.out.step hb); clear hb; obtain ⟨f0, f1, f2⟩ := R2.out.cell; have kl2 := kq _ R2.out.ec) | (go_at_call 139; (with_reducible refine kl2.mono ?_); rintro e wn ⟨rfl, H3, K3⟩; have R3 := Lib.hid (R2.out.next H3 K3); clear H3 K3))
          go_roundw
          case rel =>
            refine ⟨k + 1, RN - 1, HLT.out, by go_num, rfl, by rw [HNX.out]; exact rfl, ?_, R3.out.hp, R3.out.kt⟩
            rw [HNX.out]
            exact R3.out.ec
          case measure => have := HLT.out; simp [intOf]; omega
        | false =>
          rw [if_neg (by decide), hcl] at hnext
          clear kl hcl hrn
          go_wp2_with fail
          have R0 := Lib.hid (Ry.begin x y hE.out hH.out hK.out)
          clear p0 p1
          generalize wr.alloc (.cells #[.int .i64 x, .int .i64 y] 113) = W1 at *
          generalize wr.heap.size = g at *
          obtain ⟨d0, b0, b1⟩ := R0.out.cell
          have kr1 := kr _ R0.out.ec
          clear kr
          go_wp2_with (first | (go_at_call 138; (with_reducible refine kr1.mono ?_); rintro e wn ⟨rfl, hb⟩; have R1 := Lib.hid (R0.out.step hb); clear hb))
          clear d0 b0 b1 kr1
          obtain ⟨s, hs⟩ : ∃ s, s = e1.1.s x y := ⟨_, rfl⟩
          obtain ⟨t, ht⟩ : ∃ t, t = e1.1.t x y := ⟨_, rfl⟩
          rw [← hs, ← ht] at hnext
          have HNX := Lib.hid hnext
          have kg : ∀ X : RyF W0 W a bits p m e1 (some ⟨b, 0, none⟩) L g x y, Calls Tryd.prog 65 #[.pointer (some ⟨a.A, 0, none⟩), .int .i64 x, .int .i64 y] X.w fun e w' => e = .returned (.bool s) ∧ Below X.w.heap.size X.w w' := fun X => by rw [hs]; exact rsignificant_c X.ok.ec.rb x y
          have kt : ∀ X : RyF W0 W a bits p m e1 (some ⟨b, 0, none⟩) L g x y, Calls Tryd.prog 67 #[.pointer (some ⟨a.A, 0, none⟩), .int .i64 x, .int .i64 y] X.w fun e w' => e = .returned (.bool t) ∧ Below X.w.heap.size X.w w' := fun X => by rw [ht]; exact rtouched_c X.ok.ec.rb x y
          have kc := fun W (K : Yc W0 W a bits p m e1) => ycode_c K x y hz (by omega)
          clear hs ht hnext hz
          cases s with
          | true =>
            have hx0 := fun X : RyF W0 W a bits p m e1 (some ⟨b, 0, none⟩) L g x y => X.ok.cell.1
            have hx1 := fun X : RyF W0 W a bits p m e1 (some ⟨b, 0, none⟩) L g x y => X.ok.cell.2.1
            have hx2 := fun X : RyF W0 W a bits p m e1 (some ⟨b, 0, none⟩) L g x y => X.ok.cell.2.2
            have hst : ∀ (X : RyF W0 W a bits p m e1 (some ⟨b, 0, none⟩) L g x y) (w' : World), Below X.w.heap.size X.w w' → ∃ Y : RyF W0 W a bits p m e1 (some ⟨b, 0, none⟩) L g x y, w' = Y.w := fun X w' hb => ⟨⟨w', X.ok.step hb⟩, rfl⟩
            have hne : Nonempty (RyF W0 W a bits p m e1 (some ⟨b, 0, none⟩) L g x y) := ⟨⟨_, R1.out⟩⟩
            refine wp_region_in (fun X : RyF W0 W a bits p m e1 (some ⟨b, 0, none⟩) L g x y => X.w) (by kernel_rfl) (by kernel_rfl) ⟨⟨_, R1.out.step (Below.refl _ _).drew⟩, rfl⟩ ?_
            repeat (first | go_big_quiet_step ((first | (go_at_call 65; exact call_in (kg _) (hst _)))) | quiet_step ((first | (go_at_call 65; exact call_in (kg _) (hst _)))))
            refine wpQuiet_nil ?_
            intro _ hw'
            obtain ⟨⟨W2, R20⟩, hw''⟩ := hw'
            subst hw''
            have R2 := Lib.hid R20
            clear R20 hx0 hx1 hx2 hst hne
            go_wp2_with fail
            go_roundw
            case rel =>
              refine ⟨k + 1, 0, HLT.out, by go_num, rfl, by rw [HNX.out]; rfl, ?_, R2.out.hp, R2.out.kt⟩
              rw [HNX.out]; rw [if_pos (by simp)]
              exact R2.out.ec
            case measure => have := HLT.out; simp [intOf]; omega
          | false =>
            cases t with
            | true =>
              have hx0 := fun X : RyF W0 W a bits p m e1 (some ⟨b, 0, none⟩) L g x y => X.ok.cell.1
              have hx1 := fun X : RyF W0 W a bits p m e1 (some ⟨b, 0, none⟩) L g x y => X.ok.cell.2.1
              have hx2 := fun X : RyF W0 W a bits p m e1 (some ⟨b, 0, none⟩) L g x y => X.ok.cell.2.2
              have hst : ∀ (X : RyF W0 W a bits p m e1 (some ⟨b, 0, none⟩) L g x y) (w' : World), Below X.w.heap.size X.w w' → ∃ Y : RyF W0 W a bits p m e1 (some ⟨b, 0, none⟩) L g x y, w' = Y.w := fun X w' hb => ⟨⟨w', X.ok.step hb⟩, rfl⟩
              have hne : Nonempty (RyF W0 W a bits p m e1 (some ⟨b, 0, none⟩) L g x y) := ⟨⟨_, R1.out⟩⟩
              refine wp_region_in (fun X : RyF W0 W a bits p m e1 (some ⟨b, 0, none⟩) L g x y => X.w) (by kernel_rfl) (by kernel_rfl) ⟨⟨_, R1.out.step (Below.refl _ _).drew⟩, rfl⟩ ?_
              repeat (first | go_big_quiet_step ((first | (go_at_call 65; exact call_in (kg _) (hst _)) | (go_at_call 67; exact call_in (kt _) (hst _)))) | quiet_step ((first | (go_at_call 65; exact call_in (kg _) (hst _)) | (go_at_call 67; exact call_in (kt _) (hst _)))))
              refine wpQuiet_nil ?_
              intro _ hw'
              obtain ⟨⟨W2, R20⟩, hw''⟩ := hw'
              subst hw''
              have R2 := Lib.hid R20
              clear R20 hx0 hx1 hx2 hst hne
              go_wp2_with fail
              go_roundw
              case rel =>
                refine ⟨k + 1, 0, HLT.out, by go_num, rfl, by rw [HNX.out]; rfl, ?_, R2.out.hp, R2.out.kt⟩
                rw [HNX.out]; rw [if_pos (by simp)]
                exact R2.out.ec
              case measure => have := HLT.out; simp [intOf]; omega
            | false =>
              have hx0 := fun X : RyF W0 W a bits p m e1 (some ⟨b, 0, none⟩) L g x y => X.ok.cell.1
              have hx1 := fun X : RyF W0 W a bits p m e1 (some ⟨b, 0, none⟩) L g x y => X.ok.cell.2.1
              have hx2 := fun X : RyF W0 W a bits p m e1 (some ⟨b, 0, none⟩) L g x y => X.ok.cell.2.2
              have hst : ∀ (X : RyF W0 W a bits p m e1 (some ⟨b, 0, none⟩) L g x y) (w' : World), Below X.w.heap.size X.w w' → ∃ Y : RyF W0 W a bits p m e1 (some ⟨b, 0, none⟩) L g x y, w' = Y.w := fun X w' hb => ⟨⟨w', X.ok.step hb⟩, rfl⟩
              have hne : Nonempty (RyF W0 W a bits p m e1 (some ⟨b, 0, none⟩) L g x y) := ⟨⟨_, R1.out⟩⟩
              refine wp_region_in (fun X : RyF W0 W a bits p m e1 (some ⟨b, 0, none⟩) L g x y => X.w) (by kernel_rfl) (by kernel_rfl) ⟨⟨_, R1.out.step (Below.refl _ _).drew⟩, rfl⟩ ?_
              repeat (first | go_big_quiet_step ((first | (go_at_call 65; exact call_in (kg _) (hst _)) | (go_at_call 67; exact call_in (kt _) (hst _)))) | quiet_step ((first | (go_at_call 65; exact call_in (kg _) (hst _)) | (go_at_call 67; exact call_in (kt _) (hst _)))))
              refine wpQuiet_nil ?_
              intro _ hw'
              obtain ⟨⟨W2, R20⟩, hw''⟩ := hw'
              subst hw''
              have R2 := Lib.hid R20
              clear R20 hx0 hx1 hx2 hst hne
              clear R1 kg kt
              obtain ⟨c0, b0, b1⟩ := R2.out.cell
              have kc2 := kc _ R2.out.ec
              generalize drestS p (bitO bits) e1 x y = e2 at *
              go_wp2_with (first | (go_at_call 136; (with_reducible refine kc2.mono ?_); rintro e w3 ⟨rfl, H3, K3⟩; have R3 := Lib.hid (R2.out.next H3 K3); clear H3 K3))
              go_roundw
              case rel =>
                refine ⟨k + 1, 0, HLT.out, by go_num, rfl, by rw [HNX.out]; rfl, ?_, R3.out.hp, R3.out.kt⟩
                rw [HNX.out]; rw [if_neg (by decide)]
                exact R3.out.ec
              case measure => have := HLT.out; simp [intOf]; omega
    · have hkl : k = L.length := by omega
      subst hkl
      rw [List.take_length, HSC.out] at hE
      have hlen : eC.2.length ≤ 940000 := by
        have h1 := (rch_fold (fun z : Nat × (St × List Sy) => z.2.2) (dstK p (bitO bits)) 4 (rch_stK (p := p)) L (0, e)).cnt (f := List.length) (bitO_one bits)
        rw [HSC.out] at h1
        have h2 := HL.out
        have h3 := HSL.out
        simp only at h1
        omega
      have HLN := Lib.hid hlen
      clear hlen hV hk
      simp only at hE
      go_wp2_with fail
      obtain ⟨Wo, rfl⟩ : ∃ Wo, Wo = wr := ⟨_, rfl⟩
      go_loopw [69] (fun i wr => ∃ k : Nat, k ≤ L.length ∧ i = .int .i64 (k : Int) ∧ Hid (Yc W0 wr a bits p m (doffS p eC (L.take k))) ∧ Hid (HoldsP wr sc L) ∧ Hid (Kt W wr)) (fun i _ => (L.length - (intOf i).toNat))
      case atStart => exact ⟨0, by omega, rfl, hE.out, hH.out, hK.out⟩
      case round =>
        obtain ⟨k, hk, rfl, hE, hH, hK⟩ := hrel
        by_cases hlt : k < L.length
        · obtain ⟨b, rfl, p0, p1⟩ := hH.out.at hlt
          have hnext : doffS p eC (L.take (k + 1)) = dtouchS p (doffS p eC (L.take k)) L[k].1 L[k].2 false := foldl_take (fun (e : St × List Sy) (z : Int × Int) => dtouchS p e z.1 z.2 false) eC L k hlt
          obtain ⟨e2, he2⟩ : ∃ e2, e2 = doffS p eC (L.take k) := ⟨_, rfl⟩
          rw [← he2] at hE hnext
          obtain ⟨z, hz0⟩ : ∃ z, z = L[k] := ⟨_, rfl⟩
          rw [← hz0] at hnext p0 p1
          obtain ⟨x, y⟩ := z
          simp only at p0 p1 hnext
          have wk : IntKind.i64.wrap ((k : Int) + 1) = ((k + 1 : Nat) : Int) := by have := HSL.out; rw [IntWalk.i64_left]; unfold wrap64; omega
          have HLT := Lib.hid hlt
          have HNX := Lib.hid hnext
          clear hz0 he2 hnext
          go_wp2_with fail
          have R1 := Lib.hid (Ry.begin x y hE.out hH.out hK.out)
          clear p0 p1 hE hH hK
          generalize wr.alloc (.cells #[.int .i64 x, .int .i64 y] 113) = W1 at *
          generalize wr.heap.size = g at *
          have R4 := Lib.hid (R1.out.step (Below.refl _ _).drew)
          obtain ⟨d0, b0, b1⟩ := R4.out.cell
          have kt4 := ytouch_ce R4.out.ec x y false
          generalize dtouchS p e2 x y false = e3 at *
          go_region_held3 (fun w' => w'.cell? ⟨a.P, 0, none⟩ = some (.pointer (some ⟨a.A, 0, none⟩)) ∧ w'.cell? ⟨g, 0, none⟩ = some (.int .i64 x) ∧ w'.cell? ⟨g, 1, none⟩ = some (.int .i64 y))
            (first | (with_reducible exact ⟨d0, b0, b1⟩) | (with_reducible exact ⟨f0, f1, f2⟩) | fail)
            (first | (go_simp; go_at_call 47; (with_reducible refine kt4.mono ?_); rintro e w5 ⟨rfl, H5, K5⟩; have R5 := Lib.hid (R4.out.next H5 K5); clear H5 K5; obtain ⟨f0, f1, f2⟩ := R5.out.cell) | fail)
          all_goals
            go_wp2_with fail
            go_roundw
            case rel =>
              refine ⟨k + 1, HLT.out, by go_num, ?_, R5.out.hp, R5.out.kt⟩
              rw [HNX.out]
              exact R5.out.ec
            case measure => have := HLT.out; simp [intOf]; omega
        · have hkl : k = L.length := by omega
          subst hkl
          rw [List.take_length] at hE
          have hlen2 := off_s (p := p) eC L
          obtain ⟨e2, he2⟩ : ∃ e2, e2 = doffS p eC L := ⟨_, rfl⟩
          rw [← he2] at hE hlen2
          have HC2 := Lib.hid (show eF = dendS p (bitO bits) m.y e2 by rw [HCL.out, he2])
          have HL2 := Lib.hid (show e2.2.length ≤ 940000 by have := HLN.out; rw [hlen2]; omega)
          clear hlen2 he2
          obtain ⟨-, -, -, -, c7, -⟩ := hE.out.cells
          obtain ⟨y, hy⟩ : ∃ y, y = m.y := ⟨_, rfl⟩
          rw [← hy] at c7 HC2
          clear hy
          cases y with
          | false =>
            go_wp2_with fail
            go_ret
            exact ⟨by rw [HC2.out]; rfl, by rw [HC2.out]; exact hE.out, hK.out⟩
          | true =>
            have HEE := Lib.hid (show eF = dchkK p (bitO bits) e2 4 from HC2.out)
            clear HC2 HCL
            go_wp2_with fail
            obtain ⟨Wp, rfl⟩ : ∃ Wo, Wo = wr := ⟨_, rfl⟩
            go_loopw [12, 13] (fun z i wr => ∃ k : Nat, k ≤ 4 ∧ i = .int .i64 (k : Int) ∧ z = .bool (dchkK p (bitO bits) e2 k).2 ∧ Hid (Yc W0 wr a bits p m (dchkK p (bitO bits) e2 k).1) ∧ Hid (Kt W wr)) (fun _ i _ => (4 - (intOf i).toNat))
            case atStart => exact ⟨0, by omega, rfl, rfl, hE.out, hK.out⟩
            case round =>
              obtain ⟨k, hk, hi, hz, hE3, hK3⟩ := hrel
              have hcn : (dchkK p (bitO bits) e2 k).1.2.length ≤ 1000000 := by
                have h1 := (rch_fold (fun z : (St × List Sy) × Bool => z.1.2) (dchkS p (bitO bits)) 1 (fun z b => rch_ask z.1 18) (([1, 0, 1, 0] : List Int).take k) (e2, true)).cnt (f := List.length) (bitO_one bits)
                rw [List.length_take] at h1
                have := HL2.out
                unfold dchkK
                simp only [List.length_cons, List.length_nil] at h1
                omega
              have kp := yask_c hE3.out 18 hcn
              have hb := askB_in p (bitO bits) (dchkK p (bitO bits) e2 k).1 18
              obtain rfl | rfl | rfl | rfl | rfl : k = 0 ∨ k = 1 ∨ k = 2 ∨ k = 3 ∨ k = 4 := by omega
              · replace hi : _ = Value.int .i64 0 := hi
                subst hi
                have hn : dchkK p (bitO bits) e2 1 = (askE p (bitO bits) (dchkK p (bitO bits) e2 0).1 18, (dchkK p (bitO bits) e2 0).2 && decide (askB p (bitO bits) (dchkK p (bitO bits) e2 0).1 18 = 1)) := rfl
                obtain ⟨bt, hbt⟩ : ∃ b, b = askB p (bitO bits) (dchkK p (bitO bits) e2 0).1 18 := ⟨_, rfl⟩
                rw [← hbt] at kp hb hn
                have HN := Lib.hid hn
                generalize dchkK p (bitO bits) e2 0 = z1 at *
                subst hz
                obtain ⟨e1, y1⟩ := z1
                simp only at kp hE3 HN ⊢
                clear hbt hcn hn
                rcases hb with rfl | rfl
                all_goals
                  go_wp2_with (first | (go_at_call 137; (with_reducible refine kp.mono ?_); rintro e w6 ⟨rfl, H6, K6⟩; have H6 := Lib.hid H6; have K6 := Lib.hid (hK3.out.trans K6)))
                  go_roundw
                  case rel => exact ⟨1, by omega, by go_num, by rw [HN.out]; simp, by rw [HN.out]; exact H6, K6⟩
                  case measure => simp [intOf]
              · replace hi : _ = Value.int .i64 1 := hi
                subst hi
                have hn : dchkK p (bitO bits) e2 2 = (askE p (bitO bits) (dchkK p (bitO bits) e2 1).1 18, (dchkK p (bitO bits) e2 1).2 && decide (askB p (bitO bits) (dchkK p (bitO bits) e2 1).1 18 = 0)) := rfl
                obtain ⟨bt, hbt⟩ : ∃ b, b = askB p (bitO bits) (dchkK p (bitO bits) e2 1).1 18 := ⟨_, rfl⟩
                rw [← hbt] at kp hb hn
                have HN := Lib.hid hn
                generalize dchkK p (bitO bits) e2 1 = z1 at *
                subst hz
                obtain ⟨e1, y1⟩ := z1
                simp only at kp hE3 HN ⊢
                clear hbt hcn hn
                rcases hb with rfl | rfl
                all_goals
                  go_wp2_with (first | (go_at_call 137; (with_reducible refine kp.mono ?_); rintro e w6 ⟨rfl, H6, K6⟩; have H6 := Lib.hid H6; have K6 := Lib.hid (hK3.out.trans K6)))
                  go_roundw
                  case rel => exact ⟨2, by omega, by go_num, by rw [HN.out]; simp, by rw [HN.out]; exact H6, K6⟩
                  case measure => simp [intOf]
              · replace hi : _ = Value.int .i64 2 := hi
                subst hi
                have hn : dchkK p (bitO bits) e2 3 = (askE p (bitO bits) (dchkK p (bitO bits) e2 2).1 18, (dchkK p (bitO bits) e2 2).2 && decide (askB p (bitO bits) (dchkK p (bitO bits) e2 2).1 18 = 1)) := rfl
                obtain ⟨bt, hbt⟩ : ∃ b, b = askB p (bitO bits) (dchkK p (bitO bits) e2 2).1 18 := ⟨_, rfl⟩
                rw [← hbt] at kp hb hn
                have HN := Lib.hid hn
                generalize dchkK p (bitO bits) e2 2 = z1 at *
                subst hz
                obtain ⟨e1, y1⟩ := z1
                simp only at kp hE3 HN ⊢
                clear hbt hcn hn
                rcases hb with rfl | rfl
                all_goals
                  go_wp2_with (first | (go_at_call 137; (with_reducible refine kp.mono ?_); rintro e w6 ⟨rfl, H6, K6⟩; have H6 := Lib.hid H6; have K6 := Lib.hid (hK3.out.trans K6)))
                  go_roundw
                  case rel => exact ⟨3, by omega, by go_num, by rw [HN.out]; simp, by rw [HN.out]; exact H6, K6⟩
                  case measure => simp [intOf]
              · replace hi : _ = Value.int .i64 3 := hi
                subst hi
                have hn : dchkK p (bitO bits) e2 4 = (askE p (bitO bits) (dchkK p (bitO bits) e2 3).1 18, (dchkK p (bitO bits) e2 3).2 && decide (askB p (bitO bits) (dchkK p (bitO bits) e2 3).1 18 = 0)) := rfl
                obtain ⟨bt, hbt⟩ : ∃ b, b = askB p (bitO bits) (dchkK p (bitO bits) e2 3).1 18 := ⟨_, rfl⟩
                rw [← hbt] at kp hb hn
                have HN := Lib.hid hn
                generalize dchkK p (bitO bits) e2 3 = z1 at *
                subst hz
                obtain ⟨e1, y1⟩ := z1
                simp only at kp hE3 HN ⊢
                clear hbt hcn hn
                rcases hb with rfl | rfl
                all_goals
                  go_wp2_with (first | (go_at_call 137; (with_reducible refine kp.mono ?_); rintro e w6 ⟨rfl, H6, K6⟩; have H6 := Lib.hid H6; have K6 := Lib.hid (hK3.out.trans K6)))
                  go_roundw
                  case rel => exact ⟨4, by omega, by go_num, by rw [HN.out]; simp, by rw [HN.out]; exact H6, K6⟩
                  case measure => simp [intOf]
              · replace hi : _ = Value.int .i64 4 := hi
                subst hi
                subst hz
                go_wp2_with fail
                go_ret
                exact ⟨by rw [HEE.out]; rfl, by rw [HEE.out]; exact hE3.out, hK3.out⟩
end Go.Proofs.YtbhjapgioaiocaaDoor
