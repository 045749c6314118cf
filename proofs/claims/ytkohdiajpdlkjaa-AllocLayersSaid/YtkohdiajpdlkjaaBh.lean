/-
  Layer 21: contract of the reference's steps.
-/
import Derived.Test.YtkohdiajpdlkjaaBg
import Derived.Deep.MidRow
set_option maxRecDepth 100000
namespace Go.Proofs.Ytkohdiajpdlkjaa
attribute [local go_sem ↓] Go.wp_at_zero Go.wp_at_succ
open Go.RowKit Go.Sort

theorem infoRS : (Try.prog.info? 45).map (fun i => (i.zero, i.size, i.bytes)) = some (some (.agg #[.int .i64 0, .int .i64 0, .int .i64 0, .int .i64 0]), 4, 32) := by kernel_rfl
theorem insN_ok {cs : List Cv} (h : okC cs) {k : Nat} (hk : k < cs.length) {j : Nat} (hj : j ≤ nS (cs.getD k ([], []))) : (∀ x ∈ insN k (cs.getD k ([], [])) (insA cs k) j, okS x) ∧ (insN k (cs.getD k ([], [])) (insA cs k) j).length ≤ 12000000 := by
  have h0 := insA_all h k (by omega)
  have I := insN_ins h hk (Ins.start h0.1 h0.2) j hj
  refine ⟨fun x hx => ?_, ?_⟩
  · have hm := I.perm.subset hx
    rcases List.mem_append.1 hm with q | q
    · exact allS_ok h (by omega) x q
    · obtain ⟨i, hi, rfl⟩ := List.mem_map.1 q
      exact stepAt_ok (h.2 k hk) (by have := h.1; omega) (by have := List.mem_range.1 hi; omega)
  · rw [I.perm.length_eq, List.length_append, List.length_map, List.length_range]
    have h1 := allS_len h k (by omega)
    have h2 := nS_le (h.2 k hk)
    have := h.1
    omega
theorem zero_cells (w : World) : ∀ (j : Nat) (u : Value), [Value.int .i64 0, .int .i64 0, .int .i64 0, .int .i64 0][j]? = some u → (w.alloc (.cells #[.int .i64 0, .int .i64 0, .int .i64 0, .int .i64 0] 45)).cell? (Addr.add ⟨w.heap.size, 0, none⟩ j) = some u := by
  intro j u hj
  match j, hj with
  | 0, hj => simp at hj; subst hj; simp [Addr.add]
  | 1, hj => simp at hj; subst hj; simp [Addr.add]
  | 2, hj => simp at hj; subst hj; simp [Addr.add]
  | 3, hj => simp at hj; subst hj; simp [Addr.add]
theorem one4 (a b c d : Int) : (#[Value.int .i64 a, .int .i64 b, .int .i64 c, .int .i64 d] : Array Value).all (·.oneCell') = true := by simp [Value.oneCell']
theorem blk_range {w : World} {B : Nat} {T : TypeId} {cs : Array Value} (h : Blk w B T cs) : w.rangeAt B 0 cs.toList := fun j v hv => by
  rw [Nat.zero_add]
  exact (h.cell j).trans (by simpa using hv)
theorem infoRS4 : (Try.prog.info? 45).map (·.size) = some 4 := by kernel_rfl
theorem copy_min {p n : Nat} (hp : p ≤ n) : Nat.min (n + 1 - p) (n - p) = n - p := by
  show min (n + 1 - p) (n - p) = n - p
  omega
theorem flat_one (l : List Stp) : ∀ v ∈ flatE encB l, v.oneCell' = true := by
  intro v hv
  obtain ⟨s, _, hs⟩ := List.mem_flatMap.1 hv
  simp [encB] at hs
  rcases hs with rfl | rfl | rfl | rfl <;> rfl
theorem ins_dst {w : World} {g p : Nat} {cur : Array Value} {L : List Stp} (hG : Blk w g 45 cur) (hz : (L.length + 1) * 4 ≤ cur.size) (hp : p ≤ L.length) :
    (∀ j, j < (flatE encB (L.drop p)).length → (w.drew.cell? ⟨g, (p + 1) * 4 + j, none⟩).isSome = true) ∧ (∀ j, j < (flatE encB (L.drop p)).length → w.drew.frozen? ⟨g, (p + 1) * 4 + j, none⟩ = false) := by
  refine ⟨fun j hj => ?_, fun j _ => hG.drew.free _⟩
  rw [flatE_len, List.length_drop] at hj
  rw [hG.drew.cell, Array.getElem?_eq_getElem (by omega)]
  rfl
theorem addr_add (g o j : Nat) : (⟨g, o, none⟩ : Addr).add j = ⟨g, o + j, none⟩ := by unfold Addr.add; split <;> simp_all
theorem four_at {w : World} {g p : Nat} {cur : Array Value} (hG : Blk w g 45 cur) (hz : p * 4 + 3 < cur.size) :
    ∃ a b c d, w.cell? ⟨g, p * 4, none⟩ = some a ∧ w.cell? ⟨g, p * 4 + 1, none⟩ = some b ∧ w.cell? ⟨g, p * 4 + 2, none⟩ = some c ∧ w.cell? ⟨g, p * 4 + 3, none⟩ = some d :=
  ⟨_, _, _, _, (hG.cell _).trans (Array.getElem?_eq_getElem (by omega)), (hG.cell _).trans (Array.getElem?_eq_getElem (by omega)), (hG.cell _).trans (Array.getElem?_eq_getElem (by omega)), (hG.cell _).trans (Array.getElem?_eq_getElem (by omega))⟩
theorem zero_one : ∀ u ∈ [Value.int .i64 0, .int .i64 0, .int .i64 0, .int .i64 0], u.oneCell' = true := by
  intro u hu; simp at hu; subst hu; rfl
theorem grown_drew {w w' : World} {row : Option Nat} (h : w.grownBy w' row) : w.grownBy w'.drew row := by
  obtain ⟨a, b, c, d, e⟩ := h
  exact ⟨a, b, c, d, e⟩
theorem steep_gt {k t lc lp : Nat} {dd rr ld lr : Int} (h1 : okS ⟨k, t, dd, rr⟩) (h2 : okS ⟨lc, lp, ld, lr⟩) : (ld * rr < dd * lr → steep dd rr ld lr = 1) ∧ (¬ ld * rr < dd * lr → steep dd rr ld lr ≤ 0) := by
  have a1 : 0 < dd := h1.1
  have a2 : 0 < ld := h2.1
  rw [steep_y ⟨h1.2.1, h1.2.2.1, h2.2.1, h2.2.2.1⟩]
  dsimp only
  unfold nr
  rw [if_neg (show ¬ dd = 0 by omega), if_neg (show ¬ ld = 0 by omega)]
  rcases cmpI_cases (dd * lr) (ld * rr) with ⟨a, b⟩ | ⟨a, b⟩ | ⟨a, b⟩ <;> rw [b]
  · exact ⟨fun q => by omega, fun _ => by decide⟩
  · exact ⟨fun q => by omega, fun _ => by decide⟩
  · exact ⟨fun _ => rfl, fun q => absurd a q⟩
/-- What the copy reads. -/
theorem ins_src {w : World} {g : Nat} {cur : Array Value} {L : List Stp} {p : Nat} (hG : Blk w g 45 cur) (ht : cur.toList.take (L.length * 4) = flatE encB L) (hp : p ≤ L.length) :
    ∀ (j : Nat) (v : Value), (flatE encB (L.drop p))[j]? = some v → w.cell? ⟨g, p * 4 + j, none⟩ = some v := by
  intro j v hj
  have hl : j < (L.length - p) * 4 := by
    have := (List.getElem?_eq_some_iff.1 hj).1
    rw [flatE_len, List.length_drop] at this
    exact this
  have h1 := flatE_at (enc := encB) (L.drop p) (j / 4) (j % 4) (by rw [List.length_drop]; omega) (Nat.mod_lt _ (by decide))
  have h2 := flatE_at (enc := encB) L (p + j / 4) (j % 4) (by omega) (Nat.mod_lt _ (by decide))
  rw [show j / 4 * 4 + j % 4 = j by omega] at h1
  rw [show (p + j / 4) * 4 + j % 4 = p * 4 + j by omega] at h2
  have e : (L.drop p).getD (j / 4) default = L.getD (p + j / 4) default := by rw [List.getD_eq_getElem?_getD, List.getElem?_drop, List.getD_eq_getElem?_getD]
  rw [e, ← h2, hj] at h1
  rw [hG.cell, ← Array.getElem?_toList]
  rw [← ht, List.getElem?_take_of_lt (by omega)] at h1
  exact h1.symm
theorem below_drewN' {B : Nat} {a w : World} (h : Below B a w) (n : Nat) : Below B a (w.drewN n) := ⟨h.os, h.tape, h.output, h.size, h.block⟩
/-- What stands while the steps of a curve are put in. -/
structure S2 (W : World) (gx bp op : Nat) (PT : List Int) (x0 x1 : Value) (wr : World) (v : Value) (L : List Stp) : Prop where
  own : wr.ownsRow W.heap.size 45 4 v L.length (flatE encB L)
  be : Below W.heap.size W wr
  bx : Blk wr gx 37 #[x0, x1]
  pt : HoldsI wr (some ⟨bp, op, none⟩) PT
  pb : W.heap.size ≤ bp ∧ bp < wr.heap.size
  gb : W.heap.size ≤ gx
  pr : v.ownBlock ≠ some bp
section
variable {W wr w1 : World} {gx bp op : Nat} {PT : List Int} {x0 x1 : Value} {v : Value} {L : List Stp}
theorem S2.call (h : S2 W gx bp op PT x0 x1 wr v L) (hb : Below wr.heap.size wr w1) : S2 W gx bp op PT x0 x1 w1 v L :=
  ⟨own4_below h.own hb (Nat.le_refl _), h.be.trans (hb.mono h.be.size), h.bx.below hb, h.pt.below hb (Nat.le_refl _), ⟨h.pb.1, by have := h.pb.2; have := hb.size; omega⟩, h.gb, h.pr⟩
theorem holds_setCells {w : World} {b o g : Nat} {l : List Int} (h : HoldsI w (some ⟨b, o, none⟩) l) (hg : b ≠ g) (k : Nat) (vs : List Value) : HoldsI (w.setCells g k vs) (some ⟨b, o, none⟩) l := by
  rcases h with h | ⟨b', o', e, hc⟩
  · exact .inl h
  · injection e with e; injection e with e1 e2; subst e1 e2
    refine .inr ⟨b, o, rfl, fun j hj => ?_⟩
    rw [World.cell?_setCells_out g vs k w _ (fun q => absurd q hg)]
    exact hc j hj
theorem blk_setCells_far {g g2 : Nat} {t : TypeId} {cs : Array Value} : ∀ (vs : List Value) (k : Nat) (w : World), Blk w g t cs → g ≠ g2 → Blk (w.setCells g2 k vs) g t cs
  | [], _, _, h, _ => h
  | v :: r, k, _, h, hg => blk_setCells_far r (k + 1) _ (h.far (p := ⟨g2, k, none⟩) hg v) hg
theorem size_setCells' : ∀ (vs : List Value) (g k : Nat) (w : World), (w.setCells g k vs).heap.size = w.heap.size
  | [], _, _, _ => rfl
  | v :: r, g, k, w => by
    show ((w.setCell ⟨g, k, none⟩ v).setCells g (k + 1) r).heap.size = _
    rw [size_setCells']
    simp [World.setCell]
theorem below_setCells {B g : Nat} {a : World} (hg : B ≤ g) : ∀ (vs : List Value) (k : Nat) (w : World), Below B a w → Below B a (w.setCells g k vs)
  | [], _, _, h => h
  | v :: r, k, _, h => below_setCells hg r (k + 1) _ (h.setCell (p := ⟨g, k, none⟩) hg v)
/-- The memory behind an append of one element, and behind the insertion. -/
theorem S2.ins {v' : Value} {z : List Value} (h : S2 W gx bp op PT x0 x1 wr v L) (hg : wr.grownBy w1 v.ownBlock) (hat : v'.ownBlock = v.ownBlock ∨ v'.ownBlock = some wr.heap.size) (hown : w1.ownsRow W.heap.size 45 4 v' (L.length + 1) (flatE encB L ++ z)) (s : Stp) (k : Nat) (hk : k ≤ L.length) :
    ∃ g cur m, v' = .slice (some ⟨g, 0, none⟩) (L.length + 1) m ∧ Blk w1 g 45 cur ∧ L.length + 1 ≤ m ∧ cur.size = m * 4 ∧ m ≤ maxLen ∧ cur.toList.take (L.length * 4) = flatE encB L ∧
      S2 W gx bp op PT x0 x1 ((w1.setCells g ((k + 1) * 4) (flatE encB (L.drop k))).setCells g (k * 4) (encB s)) v' (insAt s L k) := by
  obtain ⟨sl, m, rfl⟩ := own4_slice hown
  obtain ⟨g, cur, rfl, hb, hB, h1, h2, h3, ht⟩ := own_blk hown (Nat.succ_pos _)
  have ht' : cur.toList.take (L.length * 4) = flatE encB L := by
    have e := congrArg (List.take (L.length * 4)) ht
    rw [List.take_take, Nat.min_eq_left (by omega), List.take_append_of_le_length (by rw [flatE_len]; omega)] at e
    rw [e]
    exact List.take_of_length_le (by rw [flatE_len]; omega)
  have hxr : some gx ≠ v.ownBlock := fun e => own_blk_ne h.own h.bx (by decide) e.symm
  have hbx := h.bx.grown hg hxr
  have hbg : bp ≠ g := by
    intro e
    subst e
    rcases hat with q | q
    · exact h.pr (by rw [← q]; rfl)
    · have := h.pb.2
      have e2 : bp = wr.heap.size := by simpa [Value.ownBlock] using q
      omega
  have hgg : gx ≠ g := hbx.ne hB (by decide)
  have hbe : Below W.heap.size W w1 := h.be.grown hg h.be.size (fun q hq => (own4_lt h.own q hq).1)
  refine ⟨g, cur, m, rfl, hB, h1, h3, h2, ht', ?_, ?_, ?_, ?_, ?_, h.gb, ?_⟩
  · exact ins_own (base := W.heap.size) s L k hk hb hB h1 h2 h3 ht'
  · exact below_setCells hb _ _ _ (below_setCells hb _ _ _ hbe)
  · exact blk_setCells_far _ _ _ (blk_setCells_far _ _ _ hbx hgg) hgg
  · exact holds_setCells (holds_setCells (h.pt.grown' hg h.pb.2 (fun e => h.pr e.symm)) hbg _ _) hbg _ _
  · refine ⟨h.pb.1, ?_⟩
    rw [size_setCells', size_setCells']
    have := h.pb.2
    have := hg.size
    show bp < w1.heap.size
    omega
  · intro e
    have e2 : g = bp := by simpa [Value.ownBlock] using e
    exact hbg e2.symm
end

set_option maxHeartbeats 40000000 in
theorem steps_c (a : Option Addr) (m n : Nat) (cs : List Cv) (W : World) (hC : HoldsCv W a cs) (hn : n = cs.length) (hok : okC cs) :
    Calls Try.prog 18 #[.slice a n m] W fun e w' => ∃ v, e = .returned v ∧ w'.ownsRow W.heap.size 45 4 v (insA cs cs.length).length (flatE encB (insA cs cs.length)) ∧ Below W.heap.size W w' := by
  have hn2 : n ≤ 65536 := by have := hok.1; omega
  obtain ⟨i0, hi, hz0, hz1, hz2⟩ := info_parts infoRS
  have HC := Lib.hid hC
  have HN := Lib.hid hn
  have HOK := Lib.hid hok
  have HN2 := Lib.hid hn2
  clear hC hn hok hn2
  go_enter Try.func18, Try.ntmps18
  go_wp2_with fail
  go_loopw [3, 14] (fun v i wr => ∃ k : Nat, ∃ sv : Option Addr, ∃ mv : Nat, v = .slice sv (insA cs k).length mv ∧ k ≤ n ∧ i = .int .i64 (k : Int) ∧ Hid (wr.ownsRow W.heap.size 45 4 (.slice sv (insA cs k).length mv) (insA cs k).length (flatE encB (insA cs k))) ∧ Hid (Below W.heap.size W wr)) (fun _ i _ => n - (intOf i).toNat)
  case atStart => exact ⟨0, none, 0, rfl, Nat.zero_le _, rfl, Lib.hid (World.ownsRow_nil _ _ _ _), Lib.hid (Below.refl _ _)⟩
  case round =>
    obtain ⟨k, sv, mv, rfl, hk, rfl, hL, hB⟩ := hrel
    obtain ⟨w0, rfl⟩ : ∃ w0 : World, w0 = wr := ⟨_, rfl⟩
    have hn9 := HN2.out
    by_cases hlt : k < n
    · obtain ⟨b, off, sr, sd, mr, md, rfl, c0, c1, hR, hD⟩ := HC.out.at (show k < cs.length by have := HN.out; omega)
      have hblt := cell_lt' c0
      replace c0 := (hB.out.cell (p := ⟨b, off + k * 2, none⟩) hblt).trans c0
      replace c1 := (hB.out.cell (p := ⟨b, off + k * 2 + 1, none⟩) hblt).trans c1
      have hv := HOK.out.2 k (by have := HN.out; omega)
      obtain ⟨R, D, hRD⟩ : ∃ R D, cs.getD k ([], []) = (R, D) := ⟨_, _, rfl⟩
      rw [hRD] at c0 c1 hR hD hv
      dsimp only at c0 c1 hR hD hv
      have HRW := Lib.hid hR
      have HDW := Lib.hid hD
      replace hR := hR.below hB.out (Nat.le_refl _)
      replace hD := hD.below hB.out (Nat.le_refl _)
      have HV := Lib.hid hv
      have HRD := Lib.hid hRD
      obtain ⟨r, hr⟩ : ∃ r, r = R.length := ⟨_, rfl⟩
      obtain ⟨d, hd⟩ : ∃ d, d = D.length := ⟨_, rfl⟩
      have HRL := Lib.hid hr
      have HDL := Lib.hid hd
      rw [← hr] at c0
      rw [← hd] at c1
      have kp := fun (W1 : World) (h1 : HoldsI W1 sr R) (h2 : HoldsI W1 sd D) => zpoints_c R D r d mr md sr sd W1 h1 h2 hr hd
      rw [if_pos hv] at kp
      have hp := (hull_pos R D).1
      obtain ⟨q, hq⟩ : ∃ q, (nats (hull R D)).length = q + 1 := ⟨(hull R D).length - 1, by rw [nats_len]; omega⟩
      have HQ := Lib.hid (show nS (cs.getD k ([], [])) = q by rw [hRD]; show (hull R D).length - 1 = q; rw [nats_len] at hq; omega)
      have wA := (Below.refl w0.heap.size w0).alloc (Nat.le_refl _) (.cells #[.slice sr r mr, .slice sd d md] 37)
      have kp := kp _ (hR.below wA (Nat.le_refl _)) (hD.below wA (Nat.le_refl _))
      have WA := Lib.hid wA
      have hX0 := Lib.hid (Blk.new w0 37 #[.slice sr r mr, .slice sd d md])
      clear hR hD hv hRD hr hd hp wA hblt
      unfold GivesI at kp
      rw [hq] at kp
      have HQL := Lib.hid hq
      clear hq
      have PL := Lib.hid (show 0 < (nats (hull R D)).length by rw [HQL.out]; omega)
      obtain ⟨PT, hPT⟩ : ∃ PT, PT = nats (hull R D) := ⟨_, rfl⟩
      rw [← hPT] at kp HQL PL
      have HPT := Lib.hid hPT
      have HQ9 := Lib.hid (show q ≤ 178 by have h1 := nS_le (C := (R, D)) HV.out; have h2 := HQ.out; rw [HRD.out] at h2; omega)
      clear hPT
      go_wp2_with (first | (go_at_call 24; (with_reducible refine kp.mono ?_); rintro e w1 ⟨sp, mp, rfl, hh1, hb1, hm1, hf1⟩; obtain ⟨bp, op, rfl, -⟩ := hh1.at PL.out; have HP := Lib.hid hh1; have HX := Lib.hid (hX0.out.below hb1); have HF := Lib.hid (hf1 bp op rfl); have B1 := Lib.hid (WA.out.trans (hb1.mono WA.out.size)); clear hb1 hh1 hf1) | fail)
      have S0 : S2 W w0.heap.size bp op PT (.slice sr r mr) (.slice sd d md) w1 (.slice sv (insA cs k).length mv) (insA cs k) := ⟨own4_below hL.out B1.out (Nat.le_refl _), hB.out.trans (B1.out.mono hB.out.size), HX.out, HP.out, by
        have h1 := HF.out
        have h2 := hB.out.size
        have h4 := cell_lt' (by have := holdsI_at HP.out (k := 0) PL.out; exact this)
        simp at h1
        exact ⟨by omega, h4⟩, hB.out.size, fun e => by
        have h1 := HF.out
        have h2 := (own4_lt hL.out bp e).2
        simp at h1
        omega⟩
      have SS := Lib.hid S0
      clear S0
      go_loopw [3, 7] (fun v i wr => ∃ j : Nat, ∃ sv : Option Addr, ∃ mv : Nat, v = .slice sv (insN k (cs.getD k ([], [])) (insA cs k) (j - 1)).length mv ∧ 1 ≤ j ∧ j ≤ q + 1 ∧ i = .int .i64 (j : Int) ∧ Hid (S2 W w0.heap.size bp op PT (.slice sr r mr) (.slice sd d md) wr (.slice sv (insN k (cs.getD k ([], [])) (insA cs k) (j - 1)).length mv) (insN k (cs.getD k ([], [])) (insA cs k) (j - 1)))) (fun _ i _ => q + 1 - (intOf i).toNat)
      case atStart => exact ⟨1, sv, mv, rfl, Nat.le_refl _, by omega, rfl, SS⟩
      case round =>
        obtain ⟨j1, su, mu, rfl, hj1, hj, rfl, hS⟩ := hrel
        obtain ⟨j, rfl⟩ : ∃ j, j1 = j + 1 := ⟨j1 - 1, by omega⟩
        rw [Nat.add_sub_cancel] at hS ⊢
        clear SS
        have hq9 := HQ9.out
        by_cases hjq : j < q
        · obtain ⟨wc, rfl⟩ : ∃ wc : World, wc = wr := ⟨_, rfl⟩
          have HJQ := Lib.hid hjq
          have hjh : j + 1 < (hull R D).length := by have := HQL.out; rw [HPT.out, nats_len] at this; omega
          obtain ⟨n1, n2, n3, n4, n5, n6⟩ := step_nums HV.out hjh
          have pj : wc.cell? ⟨bp, op + j, none⟩ = some (.int .i64 (((hull R D).getD j 0 : Nat) : Int)) := by
            have h := hS.out.pt.of (k := j) (by have := HQL.out; omega)
            rw [HPT.out, nats_get] at h
            exact h
          have pj1 : wc.cell? ⟨bp, op + (j + 1), none⟩ = some (.int .i64 (((hull R D).getD (j + 1) 0 : Nat) : Int)) := by
            have h := hS.out.pt.of (k := j + 1) (by have := HQL.out; omega)
            rw [HPT.out, nats_get] at h
            exact h
          obtain ⟨f, hf⟩ : ∃ f, f = (hull R D).getD j 0 := ⟨_, rfl⟩
          obtain ⟨t, ht⟩ : ∃ t, t = (hull R D).getD (j + 1) 0 := ⟨_, rfl⟩
          obtain ⟨dd, hdd⟩ : ∃ dd, dd = hF R D j := ⟨_, rfl⟩
          obtain ⟨rr, hrr⟩ : ∃ rr, rr = hI R D j := ⟨_, rfl⟩
          have HST := Lib.hid (show stepAt k (cs.getD k ([], [])) j = ⟨k, t, dd, rr⟩ by rw [HRD.out, ht, hdd, hrr]; rfl)
          have HSO := Lib.hid (stepAt_ok (C := (R, D)) (i := k) HV.out (by omega) (k := j) (by show j < (hull R D).length - 1; omega))
          rw [← hf] at pj n1 n3 n5 n6
          rw [← ht] at pj1 n2 n4 n5 n6
          rw [← hdd] at n5
          rw [← hrr] at n6
          clear hf ht hdd hrr
          obtain ⟨L, hLL⟩ : ∃ L, L = insN k (cs.getD k ([], [])) (insA cs k) j := ⟨_, rfl⟩
          rw [← hLL] at hS ⊢
          have HLL := Lib.hid hLL
          have HOL := Lib.hid (show (∀ x ∈ L, okS x) ∧ L.length ≤ 12000000 by rw [hLL]; exact insN_ok HOK.out (by have := HN.out; omega) (by rw [HQ.out]; omega))
          clear hLL
          go_wp2_with fail
          go_quiet (fail)
          go_wp2_with fail
          have hS1 := Lib.hid (hS.out.call (below_drewN' (Below.refl _ _) nq))
          clear pj pj1 hS
          generalize wc.drewN nq = wd at hS1 ⊢
          have hRc := HRW.out.below hS1.out.be (Nat.le_refl _)
          have hDc := HDW.out.below hS1.out.be (Nat.le_refl _)
          obtain ⟨br, orr, rfl, rf⟩ := hRc.at n1
          have rt := hRc.of n2
          obtain ⟨bd, odd, rfl, df⟩ := hDc.at n3
          have dt := hDc.of n4
          rw [← HRL.out] at n1 n2
          rw [← HDL.out] at n3 n4
          generalize R.getD f 0 = rf0 at *
          generalize R.getD t 0 = rt0 at *
          generalize D.getD f 0 = df0 at *
          generalize D.getD t 0 = dt0 at *
          have b0 : wd.cell? ⟨w0.heap.size, 0, none⟩ = some (.slice (some ⟨br, orr, none⟩) r mr) := hS1.out.bx.cell 0
          have b1 : wd.cell? ⟨w0.heap.size, 1, none⟩ = some (.slice (some ⟨bd, odd, none⟩) d md) := hS1.out.bx.cell 1
          have z1 : (0 : Int) ≤ (f : Int) := by omega
          have z2 : (0 : Int) ≤ (t : Int) := by omega
          have f0 : (f : Int) < (r : Int) := by omega
          have f1 : (t : Int) < (r : Int) := by omega
          have f2 : (f : Int) < (d : Int) := by omega
          have f3 : (t : Int) < (d : Int) := by omega
          have sd0 : wd.drew.cell? ⟨w0.heap.size, 0, none⟩ = some (.slice (some ⟨br, orr, none⟩) r mr) ∧ wd.drew.cell? ⟨w0.heap.size, 1, none⟩ = some (.slice (some ⟨bd, odd, none⟩) d md) ∧ wd.drew.cell? ⟨br, orr + f, none⟩ = some (.int .i64 rf0) ∧ wd.drew.cell? ⟨br, orr + t, none⟩ = some (.int .i64 rt0) ∧ wd.drew.cell? ⟨bd, odd + f, none⟩ = some (.int .i64 df0) ∧ wd.drew.cell? ⟨bd, odd + t, none⟩ = some (.int .i64 dt0) := ⟨b0, b1, rf, rt, df, dt⟩
          have sd2 : ∀ X : Obj, (wd.drew.alloc X).cell? ⟨w0.heap.size, 0, none⟩ = some (.slice (some ⟨br, orr, none⟩) r mr) ∧ (wd.drew.alloc X).cell? ⟨w0.heap.size, 1, none⟩ = some (.slice (some ⟨bd, odd, none⟩) d md) ∧ (wd.drew.alloc X).cell? ⟨br, orr + f, none⟩ = some (.int .i64 rf0) ∧ (wd.drew.alloc X).cell? ⟨br, orr + t, none⟩ = some (.int .i64 rt0) ∧ (wd.drew.alloc X).cell? ⟨bd, odd + f, none⟩ = some (.int .i64 df0) ∧ (wd.drew.alloc X).cell? ⟨bd, odd + t, none⟩ = some (.int .i64 dt0) := fun X => ⟨cell_alloc (w := wd.drew) b0 X, cell_alloc (w := wd.drew) b1 X, cell_alloc (w := wd.drew) rf X, cell_alloc (w := wd.drew) rt X, cell_alloc (w := wd.drew) df X, cell_alloc (w := wd.drew) dt X⟩
          have sd1 : ∀ X : Obj, (wd.alloc X).drew.cell? ⟨w0.heap.size, 0, none⟩ = some (.slice (some ⟨br, orr, none⟩) r mr) ∧ (wd.alloc X).drew.cell? ⟨w0.heap.size, 1, none⟩ = some (.slice (some ⟨bd, odd, none⟩) d md) ∧ (wd.alloc X).drew.cell? ⟨br, orr + f, none⟩ = some (.int .i64 rf0) ∧ (wd.alloc X).drew.cell? ⟨br, orr + t, none⟩ = some (.int .i64 rt0) ∧ (wd.alloc X).drew.cell? ⟨bd, odd + f, none⟩ = some (.int .i64 df0) ∧ (wd.alloc X).drew.cell? ⟨bd, odd + t, none⟩ = some (.int .i64 dt0) := fun X => ⟨cell_alloc (w := wd.drew) b0 X, cell_alloc (w := wd.drew) b1 X, cell_alloc (w := wd.drew) rf X, cell_alloc (w := wd.drew) rt X, cell_alloc (w := wd.drew) df X, cell_alloc (w := wd.drew) dt X⟩
          have HS3 := Lib.hid (hS1.out.call ((below_alloc (Below.refl wd.heap.size wd) (.cells #[.int .i64 dd, .int .i64 rr, .int .i64 (k : Int), .int .i64 (t : Int)] 45)).drew))
          have HX3 : Hid (Blk ((wd.alloc (.cells #[.int .i64 dd, .int .i64 rr, .int .i64 (k : Int), .int .i64 (t : Int)] 45)).drew) wd.heap.size 45 #[.int .i64 dd, .int .i64 rr, .int .i64 (k : Int), .int .i64 (t : Int)]) := Lib.hid (Blk.drew (Blk.new wd 45 _))
          have HPR := Lib.hid (show (Value.slice su L.length mu).ownBlock ≠ some wd.heap.size from fun e => absurd (own4_lt hS1.out.own _ e).2 (Nat.lt_irrefl wd.heap.size))
          clear hRc hDc b0 b1 rf rt df dt n1 n2 n3 n4
          go_region_held3 (fun w' => w'.cell? ⟨w0.heap.size, 0, none⟩ = some (.slice (some ⟨br, orr, none⟩) r mr) ∧ w'.cell? ⟨w0.heap.size, 1, none⟩ = some (.slice (some ⟨bd, odd, none⟩) d md) ∧ w'.cell? ⟨br, orr + f, none⟩ = some (.int .i64 rf0) ∧ w'.cell? ⟨br, orr + t, none⟩ = some (.int .i64 rt0) ∧ w'.cell? ⟨bd, odd + f, none⟩ = some (.int .i64 df0) ∧ w'.cell? ⟨bd, odd + t, none⟩ = some (.int .i64 dt0))
            (first | (with_reducible exact sd0) | (with_reducible exact sd1 _) | (with_reducible exact sd2 _) | fail)
            (fail)
          generalize (wd.alloc (.cells #[.int .i64 dd, .int .i64 rr, .int .i64 (k : Int), .int .i64 (t : Int)] 45)).drew = w1 at HS3 HX3 ⊢
          generalize wd.heap.size = gs at HX3 HPR ⊢
          have oL := HOL.out.2
          have hs0 := HSO.out
          rw [← HRD.out, HST.out] at hs0
          go_wp2_with fail
          go_loopw [11] (fun i wr => ∃ p : Nat, p ≤ L.length ∧ i = .int .i64 (p : Int) ∧ Hid (atF ⟨k, t, dd, rr⟩ L p = atF ⟨k, t, dd, rr⟩ L L.length) ∧ Hid (S2 W w0.heap.size bp op PT (.slice (some ⟨br, orr, none⟩) r mr) (.slice (some ⟨bd, odd, none⟩) d md) wr (.slice su L.length mu) L) ∧ Hid (Blk wr gs 45 #[.int .i64 dd, .int .i64 rr, .int .i64 (k : Int), .int .i64 (t : Int)])) (fun i _ => (intOf i).toNat)
          case atStart => exact ⟨L.length, Nat.le_refl _, rfl, Lib.hid rfl, HS3, HX3⟩
          case round =>
            obtain ⟨p, hp, rfl, hA, hS4, hX4⟩ := hrel
            clear HS3 HX3
            obtain ⟨wi, rfl⟩ : ∃ wi : World, wi = wr := ⟨_, rfl⟩
            by_cases h0 : p = 0
            · have HA := Lib.hid (show atF ⟨k, t, dd, rr⟩ L L.length = p by rw [← hA.out, h0]; rfl)
              have h1 : ¬ (0 : Int) < (p : Int) := by omega
              have h1b : decide ((0 : Int) < (p : Int)) = false := decide_eq_false h1
              have h1c : ((0 : Int) < (p : Int)) = False := eq_false h1
              have h1d : (0 < p) = False := eq_false (by omega)
              clear h0 hA h1
              go_wp2_with fail
              go_quiet (fail)
              have hS5 := Lib.hid (hS4.out.call (below_drewN' (Below.refl _ _) nq))
              have hX5 := Lib.hid (hX4.out.below (below_drewN' (Below.refl _ _) nq))
              clear hS4 hX4
              generalize wi.drewN nq = w2 at hS5 hX5 ⊢
              have hS6 := Lib.hid (hS5.out.call (below_alloc (Below.refl _ _) (.cells #[.int .i64 0, .int .i64 0, .int .i64 0, .int .i64 0] 45)))
              go_wp2_with (first | (at_builtin; refine wpList_append_own_at _ rfl _ _ 42 rfl W.heap.size 45 i0 (.agg #[.int .i64 0, .int .i64 0, .int .i64 0, .int .i64 0]) 4 32 Try.underlying42 hi hz0 hz1 hz2 rfl (by decide) (.slice su L.length mu) L.length _ rfl hS6.out.own ⟨w2.heap.size, 0, none⟩ 1 1 [.int .i64 0, .int .i64 0, .int .i64 0, .int .i64 0] rfl rfl (zero_cells w2) zero_one (by have := HOL.out.2; unfold maxLen; omega) (by have := HOL.out.2; omega) hS6.out.be.size ?_) | fail)
              intro v' w3 hown hgrow _ hat
              have hX6 := (hX5.out.alloc (.cells #[.int .i64 0, .int .i64 0, .int .i64 0, .int .i64 0] 45)).grown hgrow (fun e => HPR.out e.symm)
              have hgl := hX5.out.lt
              have hsep : v'.ownBlock ≠ some gs := fun e => by
                rcases hat with q | q
                · exact HPR.out (by rw [← q]; exact e)
                · rw [e] at q
                  have q2 : gs = w2.heap.size + 1 := by simpa using q
                  omega
              obtain ⟨g, cur, ma, rfl, hG, g1, g2, g3, g4, hFIN⟩ := hS6.out.ins (w1 := w3.drew) (grown_drew hgrow) (by simpa using hat) hown ⟨k, t, dd, rr⟩ p hp
              have hgg : gs ≠ g := fun e => hsep (by rw [e]; rfl)
              have hC := blk_setCells (flatE encB (L.drop p)) ((p + 1) * 4) _ _ hG
              have hX7 := blk_setCells_far (flatE encB (L.drop p)) ((p + 1) * 4) w3.drew hX6 hgg
              have cs1 := ins_src hG g4 hp
              have HC1 := Lib.hid cs1
              have HFIN := Lib.hid hFIN
              have HXX := Lib.hid hX7
              have HCC := Lib.hid hC
              have HG1 := Lib.hid (And.intro g1 (And.intro g2 g3))
              have HGB := Lib.hid hG
              have z0 : (0 : Int) ≤ (p : Int) := by omega
              have z1 : (p : Int) + 1 ≤ ((L.length + 1 : Nat) : Int) := by omega
              have zw : IntKind.i64.wrap ((p : Int) + 1) = ((p + 1 : Nat) : Int) := by rw [IntWalk.i64_left]; unfold wrap64; omega
              clear hFIN hX7 hC hX6 hown hgrow hat hsep cs1 hG g4
              have hml := copy_min hp
              have hdst := ins_dst HGB.out (by have := HG1.out; omega) hp
              have y0 : (0 : Int) ≤ (p : Int) + 1 := by omega
              have y1 : (p : Int) + 1 ≤ (L.length : Int) + 1 := by omega
              have y2 : (p : Int) ≤ (L.length : Int) + 1 := by omega
              have y3 : p ≤ L.length + 1 := by omega
              have y4 : L.length + 1 ≤ ma := HG1.out.1
              have y7 : ¬ ma = p := by omega
              have y5 : (L.length : Int) + 1 ≤ (ma : Int) := by omega
              obtain ⟨pa, hpa⟩ : ∃ pa, (if ma = p + 1 then (some ⟨g, 0, none⟩ : Option Addr) else some ⟨g, (p + 1) * 4, none⟩) = pa := ⟨_, rfl⟩
              clear oL
              go_wp2_with fail
              go_region_held3 (fun _ => True) (trivial)
                (refine step_copy_at rfl (.tmp 94) (.tmp 97) 42 rfl 45 Try.underlying42 infoRS4 _ _ _ _ _ _ rfl rfl g ((p + 1) * 4) (L.length - p) (flatE encB (L.drop p)) hml (by rw [flatE_len, List.length_drop]) (fun hq => by (have hx : ¬ ma = p + 1 := by omega); exact ⟨by rw [← hpa, if_neg hx], ⟨g, p * 4, none⟩, by simp, fun j v hj => by rw [addr_add]; exact HC1.out j v hj⟩) hdst.1 hdst.2 (flat_one _) ?_)
              clear hpa
              have HINS := Lib.hid (show insAt ⟨k, t, dd, rr⟩ L p = insN k (cs.getD k ([], [])) (insA cs k) (j + 1) by rw [insN, HST.out, ← HLL.out, insS, HA.out]; rfl)
              generalize w3.drew.setCells g ((p + 1) * 4) (flatE encB (L.drop p)) = w4 at HXX HCC HFIN ⊢
              have HR4 := Lib.hid (blk_range HXX.out)
              have HT4 : w4.there g (p * 4) 4 := fun j hj => ⟨by rw [HCC.out.cell, Array.getElem?_eq_getElem (by rw [size_setMany]; have := HG1.out; omega)]; rfl, HCC.out.free _⟩
              have HT4 := Lib.hid HT4
              go_wp2_with (first | (refine wpList_load_mid rfl 45 (.tmp 10) rfl gs 0 rfl [.int .i64 dd, .int .i64 rr, .int .i64 (k : Int), .int .i64 (t : Int)] _ HR4.out Try.underlying45 rfl infoRS4 ?_) | (refine wpList_store_mid rfl 45 (.tmp 102) (.tmp 101) rfl g (p * 4) #[.int .i64 dd, .int .i64 rr, .int .i64 (k : Int), .int .i64 (t : Int)] rfl rfl HT4.out infoRS4 (one4 _ _ _ _) ?_) | fail)
              go_roundw
              case rel => exact ⟨j + 1 + 1, some ⟨g, 0, none⟩, ma, by rw [Nat.add_sub_cancel, ← HINS.out, insAt_len], by omega, by omega, by go_num, by rw [Nat.add_sub_cancel, ← HINS.out, insAt_len]; exact HFIN⟩
              case measure => simp [intOf]; omega
            · obtain ⟨p', hp'⟩ : ∃ p', p = p' + 1 := ⟨p - 1, by omega⟩
              have h1 : (0 : Int) < (p : Int) := by omega
              have h1d : (0 < p) = True := eq_true (by omega)
              have hw : IntKind.i64.wrap ((p : Int) - 1) = (p' : Int) := by rw [IntWalk.i64_left]; unfold wrap64; omega
              obtain ⟨s9, m9, e9, hH⟩ := ownE_holds hS4.out.own rfl
              obtain ⟨bl, ol, e8⟩ := hH.some (by omega)
              subst e8
              injection e9 with e7 _ e6
              subst e7 e6
              obtain ⟨c0, c1, -, -⟩ := hH.atB (k := p') (by omega)
              have hmem := HOL.out.1 _ (getD_mem (l := L) (j := p') (by omega))
              have hat2 : atF ⟨k, t, dd, rr⟩ L p = if (L.getD p' default).d * rr < dd * (L.getD p' default).r then atF ⟨k, t, dd, rr⟩ L p' else p := by rw [hp']; rfl
              obtain ⟨lc, lp, ld, lr, hl⟩ : ∃ lc lp ld lr, L.getD p' default = ⟨lc, lp, ld, lr⟩ := ⟨_, _, _, _, rfl⟩
              rw [hl] at c0 c1 hmem hat2
              dsimp only at c0 c1 hat2
              have e0 := hX4.out.cell 0
              have e1 := hX4.out.cell 1
              have e0' : wi.cell? ⟨gs, 0, none⟩ = some (.int .i64 dd) := e0
              have e1' : wi.cell? ⟨gs, 1, none⟩ = some (.int .i64 rr) := e1
              have ks := fun W1 : World => zsteeper_c dd rr ld lr W1
              have hst := steep_gt hs0 hmem
              generalize steep dd rr ld lr = st at ks hst
              have y0 : (0 : Int) ≤ (p' : Int) := by omega
              have y1 : (p' : Int) < (L.length : Int) := by omega
              have HPP := Lib.hid hp'
              clear e0 e1 hH hl hmem hp'
              by_cases c : ld * rr < dd * lr
              · obtain rfl : st = 1 := hst.1 c
                rw [if_pos c] at hat2
                have HA2 := Lib.hid (hat2.symm.trans hA.out)
                clear hat2 hst
                go_wp2_with fail
                go_quiet ((go_at_call 25; exact Calls.quiet_of_same (ks _)))
                go_wp2_with fail
                go_roundw
                case rel => exact ⟨p', by have := HPP.out; omega, by go_num, HA2, hS4.out.call (below_drewN' (Below.refl _ _) nq), hX4.out.below (below_drewN' (Below.refl _ _) nq)⟩
                case measure => have := HPP.out; simp [intOf]; omega
              · have h2 : ¬ (0 : Int) < st := by have := hst.2 c; omega
                have HA := Lib.hid (show atF ⟨k, t, dd, rr⟩ L L.length = p by rw [← hA.out, hat2, if_neg c])
                clear hat2 hst hA
                go_wp2_with fail
                go_quiet ((go_at_call 25; exact Calls.quiet_of_same (ks _)))
                have hS5 := Lib.hid (hS4.out.call (below_drewN' (Below.refl _ _) nq))
                have hX5 := Lib.hid (hX4.out.below (below_drewN' (Below.refl _ _) nq))
                clear hS4 hX4
                generalize wi.drewN nq = w2 at hS5 hX5 ⊢
                have hS6 := Lib.hid (hS5.out.call (below_alloc (Below.refl _ _) (.cells #[.int .i64 0, .int .i64 0, .int .i64 0, .int .i64 0] 45)))
                go_wp2_with (first | (at_builtin; refine wpList_append_own_at _ rfl _ _ 42 rfl W.heap.size 45 i0 (.agg #[.int .i64 0, .int .i64 0, .int .i64 0, .int .i64 0]) 4 32 Try.underlying42 hi hz0 hz1 hz2 rfl (by decide) (.slice (some ⟨bl, ol, none⟩) L.length mu) L.length _ rfl hS6.out.own ⟨w2.heap.size, 0, none⟩ 1 1 [.int .i64 0, .int .i64 0, .int .i64 0, .int .i64 0] rfl rfl (zero_cells w2) zero_one (by have := HOL.out.2; unfold maxLen; omega) (by have := HOL.out.2; omega) hS6.out.be.size ?_) | fail)
                intro v' w3 hown hgrow _ hat
                have hX6 := (hX5.out.alloc (.cells #[.int .i64 0, .int .i64 0, .int .i64 0, .int .i64 0] 45)).grown hgrow (fun e => HPR.out e.symm)
                have hgl := hX5.out.lt
                have hsep : v'.ownBlock ≠ some gs := fun e => by
                  rcases hat with q | q
                  · exact HPR.out (by rw [← q]; exact e)
                  · rw [e] at q
                    have q2 : gs = w2.heap.size + 1 := by simpa using q
                    omega
                obtain ⟨g, cur, ma, rfl, hG, g1, g2, g3, g4, hFIN⟩ := hS6.out.ins (w1 := w3.drew) (grown_drew hgrow) (by simpa using hat) hown ⟨k, t, dd, rr⟩ p hp
                have hgg : gs ≠ g := fun e => hsep (by rw [e]; rfl)
                have hC := blk_setCells (flatE encB (L.drop p)) ((p + 1) * 4) _ _ hG
                have hX7 := blk_setCells_far (flatE encB (L.drop p)) ((p + 1) * 4) w3.drew hX6 hgg
                have cs1 := ins_src hG g4 hp
                have HC1 := Lib.hid cs1
                have HFIN := Lib.hid hFIN
                have HXX := Lib.hid hX7
                have HCC := Lib.hid hC
                have HG1 := Lib.hid (And.intro g1 (And.intro g2 g3))
                have HGB := Lib.hid hG
                have z0 : (0 : Int) ≤ (p : Int) := by omega
                have z1 : (p : Int) + 1 ≤ ((L.length + 1 : Nat) : Int) := by omega
                have zw : IntKind.i64.wrap ((p : Int) + 1) = ((p + 1 : Nat) : Int) := by rw [IntWalk.i64_left]; unfold wrap64; omega
                clear hFIN hX7 hC hX6 hown hgrow hat hsep cs1 hG g4
                have hml := copy_min hp
                have hdst := ins_dst HGB.out (by have := HG1.out; omega) hp
                have y0 : (0 : Int) ≤ (p : Int) + 1 := by omega
                have y1 : (p : Int) + 1 ≤ (L.length : Int) + 1 := by omega
                have y2 : (p : Int) ≤ (L.length : Int) + 1 := by omega
                have y3 : p ≤ L.length + 1 := by omega
                have y4 : L.length + 1 ≤ ma := HG1.out.1
                have y7 : ¬ ma = p := by omega
                have y5 : (L.length : Int) + 1 ≤ (ma : Int) := by omega
                obtain ⟨pa, hpa⟩ : ∃ pa, (if ma = p + 1 then (some ⟨g, 0, none⟩ : Option Addr) else some ⟨g, (p + 1) * 4, none⟩) = pa := ⟨_, rfl⟩
                clear oL
                go_wp2_with fail
                go_region_held3 (fun _ => True) (trivial)
                  (refine step_copy_at rfl (.tmp 94) (.tmp 97) 42 rfl 45 Try.underlying42 infoRS4 _ _ _ _ _ _ rfl rfl g ((p + 1) * 4) (L.length - p) (flatE encB (L.drop p)) hml (by rw [flatE_len, List.length_drop]) (fun hq => by (have hx : ¬ ma = p + 1 := by omega); exact ⟨by rw [← hpa, if_neg hx], ⟨g, p * 4, none⟩, by simp, fun j v hj => by rw [addr_add]; exact HC1.out j v hj⟩) hdst.1 hdst.2 (flat_one _) ?_)
                clear hpa
                have HINS := Lib.hid (show insAt ⟨k, t, dd, rr⟩ L p = insN k (cs.getD k ([], [])) (insA cs k) (j + 1) by rw [insN, HST.out, ← HLL.out, insS, HA.out]; rfl)
                generalize w3.drew.setCells g ((p + 1) * 4) (flatE encB (L.drop p)) = w4 at HXX HCC HFIN ⊢
                have HR4 := Lib.hid (blk_range HXX.out)
                have HT4 : w4.there g (p * 4) 4 := fun j hj => ⟨by rw [HCC.out.cell, Array.getElem?_eq_getElem (by rw [size_setMany]; have := HG1.out; omega)]; rfl, HCC.out.free _⟩
                have HT4 := Lib.hid HT4
                go_wp2_with (first | (refine wpList_load_mid rfl 45 (.tmp 10) rfl gs 0 rfl [.int .i64 dd, .int .i64 rr, .int .i64 (k : Int), .int .i64 (t : Int)] _ HR4.out Try.underlying45 rfl infoRS4 ?_) | (refine wpList_store_mid rfl 45 (.tmp 102) (.tmp 101) rfl g (p * 4) #[.int .i64 dd, .int .i64 rr, .int .i64 (k : Int), .int .i64 (t : Int)] rfl rfl HT4.out infoRS4 (one4 _ _ _ _) ?_) | fail)
                go_roundw
                case rel => exact ⟨j + 1 + 1, some ⟨g, 0, none⟩, ma, by rw [Nat.add_sub_cancel, ← HINS.out, insAt_len], by omega, by omega, by go_num, by rw [Nat.add_sub_cancel, ← HINS.out, insAt_len]; exact HFIN⟩
                case measure => simp [intOf]; omega
        · obtain rfl : j = q := by omega
          go_wp2_with fail
          go_roundw
          case rel => exact ⟨k + 1, su, mu, by rw [insA, HQ.out], by omega, by go_num, by rw [insA, HQ.out]; exact Lib.hid hS.out.own, hS.out.be⟩
          case measure => simp [intOf]; omega
    · obtain rfl : k = n := by omega
      go_wp2_with fail
      go_ret
      exact ⟨_, rfl, by rw [← HN.out]; exact hL.out, hB.out⟩
end Go.Proofs.Ytkohdiajpdlkjaa
