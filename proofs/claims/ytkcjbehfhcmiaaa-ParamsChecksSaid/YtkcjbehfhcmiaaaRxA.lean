/-
  Layer 23 (reference): the mathematics of the crowd, Cells, and the contract of Check.
-/
import Derived.Test.YtkcjbehfhcmiaaaHu
import Derived.Test.YtkcjbehfhcmiaaaRectF
import Derived.Test.YtkcjbehfhcmiaaaHx3
import Derived.Test.YtkcjbehfhcmiaaaRpA
set_option maxRecDepth 100000
namespace Go.Proofs.Ytkcjbehfhcmiaaa
open Go.RowKit


theorem max_fold {α : Type} (f : α → Int) (K : Int) : ∀ (l : List α) (n : Int), K < l.foldl (fun n i => max n (f i)) n ↔ (K < n ∨ ∃ i ∈ l, K < f i)
  | [], n => by simp
  | a :: l, n => by
    rw [List.foldl_cons, max_fold f K l]
    constructor
    · rintro (h | ⟨i, hi, hk⟩)
      · by_cases q : K < n
        · exact .inl q
        · exact .inr ⟨a, List.mem_cons_self, by omega⟩
      · exact .inr ⟨i, List.mem_cons_of_mem _ hi, hk⟩
    · rintro (h | ⟨i, hi, hk⟩)
      · exact .inl (by omega)
      · rcases List.mem_cons.1 hi with rfl | hi
        · exact .inl (by omega)
        · exact .inr ⟨i, hi, hk⟩
theorem bkR_lt (p : Hp.Ps) (V : Pl.R) (c : Hp.Cm) (K n : Int) (L : Nat) : K < bkR p V c n L ↔ (K < n ∨ ∃ i : Nat, i < L ∧ K < bkG p V c i) := by
  unfold bkR
  rw [max_fold (fun i : Nat => bkG p V c i) K]
  simp
theorem bkC_lt (p : Hp.Ps) (V : Pl.R) (K : Int) (L : Nat) : ∀ (l : List Hp.Cm) (n : Int), K < l.foldl (fun n c => bkR p V c n L) n ↔ (K < n ∨ ∃ c ∈ l, ∃ i : Nat, i < L ∧ K < bkG p V c i)
  | [], n => by simp
  | a :: l, n => by
    rw [List.foldl_cons, bkC_lt p V K L l, bkR_lt]
    constructor
    · rintro ((h | ⟨i, hi, hk⟩) | ⟨c, hc, i, hi, hk⟩)
      · exact .inl h
      · exact .inr ⟨a, List.mem_cons_self, i, hi, hk⟩
      · exact .inr ⟨c, List.mem_cons_of_mem _ hc, i, hi, hk⟩
    · rintro (h | ⟨c, hc, i, hi, hk⟩)
      · exact .inl (.inl h)
      · rcases List.mem_cons.1 hc with rfl | hc
        · exact .inl (.inr ⟨i, hi, hk⟩)
        · exact .inr ⟨c, hc, i, hi, hk⟩
theorem bkN_lt (h : Hp.Hd) (p : Hp.Ps) (V : Pl.R) : 65536 < bkN h p V h.cs.length ↔ ∃ c ∈ h.cs, ∃ i : Nat, i < (3 * p.lev + 1).toNat ∧ 65536 < bkG p V c i := by
  unfold bkN
  rw [List.take_length, bkC_lt]
  constructor
  · rintro (h | h)
    · omega
    · exact h
  · exact .inr
/-- A subband belongs to one resolution. -/
theorem idx_of {lev : Int} (hl : 0 ≤ lev ∧ lev ≤ 5) {i : Nat} (hi : i < (3 * lev + 1).toNat) : (Hp.rsI i).toNat < (lev + 1).toNat ∧ 0 ≤ Hp.rsI i ∧ (i : Int) ∈ Hp.idxL lev (Hp.rsI i) := by
  have r1 : 0 ≤ Hp.rsI i ∧ Hp.rsI i ≤ lev ∧ 3 * Hp.rsI i ≤ i + 2 ∧ (i : Int) ≤ 3 * Hp.rsI i := by unfold Hp.rsI; omega
  refine ⟨by omega, r1.1, ?_⟩
  unfold Hp.idxL
  rw [if_neg (by rw [ex_iff.2 ⟨hl.2, r1.1, r1.2.1⟩]; decide)]
  generalize Hp.rsI (i : Int) = r at *
  by_cases h0 : r = 0
  · rw [if_pos h0]
    simp
    omega
  · rw [if_neg h0]
    simp
    omega
theorem any_big {h : Hp.Hd} {p : Hp.Ps} (T : Hp.Tls h) (P : POk h p) : Hp.anyBig h p = true ↔ ∃ t, t < Hp.nr h * Hp.nc h ∧ 65536 < bkN h p (Hp.tlN h t) h.cs.length := by
  unfold Hp.anyBig
  rw [List.any_eq_true]
  have hl := P.lev
  constructor
  · rintro ⟨c, hc, hb⟩
    obtain ⟨r, hr, hb⟩ := List.any_eq_true.1 hb
    have hr := List.mem_range.1 hr
    unfold Hp.bigRes at hb
    obtain ⟨idx, hi, hb⟩ := List.any_eq_true.1 hb
    obtain ⟨m1, m2, m3⟩ := mem_idx (ex_iff.2 ⟨hl.2, by omega, by omega⟩) hi
    have hb := of_decide_eq_true hb
    have F : Hp.Sep (Hp.fBan p idx c) := (Hp.sep_smp (P.cms c hc).1 (P.cms c hc).2).comp Hp.sep_ban
    obtain ⟨t, ht, hk⟩ := (Hp.most_lt T F 65536).1 hb
    refine ⟨t, ht, (bkN_lt h p _).2 ⟨c, hc, idx.toNat, by omega, ?_⟩⟩
    have e1 : ((idx.toNat : Nat) : Int) = idx := by omega
    have e2 : Hp.rsI idx = (r : Int) := by unfold Hp.rsI; omega
    unfold bkG
    rw [e1, e2]
    exact hk
  · rintro ⟨t, ht, hk⟩
    obtain ⟨c, hc, i, hi, hk⟩ := (bkN_lt h p _).1 hk
    obtain ⟨m1, m2, m3⟩ := idx_of hl hi
    have F : Hp.Sep (Hp.fBan p i c) := (Hp.sep_smp (P.cms c hc).1 (P.cms c hc).2).comp Hp.sep_ban
    refine ⟨c, hc, List.any_eq_true.2 ⟨(Hp.rsI i).toNat, List.mem_range.2 m1, ?_⟩⟩
    unfold Hp.bigRes
    rw [show (((Hp.rsI i).toNat : Nat) : Int) = Hp.rsI i by omega]
    refine List.any_eq_true.2 ⟨(i : Int), m3, decide_eq_true ?_⟩
    exact (Hp.most_lt T F 65536).2 ⟨t, ht, hk⟩
theorem mx_tot {h : Hp.Hd} {p : Hp.Ps} (T : Hp.Tls h) (P : POk h p) : 65536 < Hp.mxL (Hp.totM h p) * p.lay ↔ ∃ t, t < Hp.nr h * Hp.nc h ∧ 65536 < Hp.pkM h p (Hp.tlN h t) * p.lay := by
  obtain ⟨hlen, hget⟩ := Hp.tot_get (p := p) T P.cms
  have hpos : 0 < Hp.nr h * Hp.nc h := Nat.mul_pos T.pos.2 T.pos.1
  have hne : Hp.totM h p ≠ [] := by
    intro q
    rw [q] at hlen
    simp at hlen
    omega
  have hl := P.lay
  have gt : ∀ (t : Nat) (ht : t < (Hp.totM h p).length), (Hp.totM h p)[t] = Hp.pkM h p (Hp.tlN h t) := by
    intro t ht
    have := hget t (by omega)
    rw [List.getD_eq_getElem?_getD, List.getElem?_eq_getElem ht] at this
    simpa using this
  constructor
  · intro hk
    obtain ⟨t, ht, he⟩ := List.getElem_of_mem (Hp.mxL_mem hne)
    refine ⟨t, by omega, ?_⟩
    rw [← gt t ht, he]
    exact hk
  · rintro ⟨t, ht, hk⟩
    have ht' : t < (Hp.totM h p).length := by omega
    have := Hp.mxL_le (List.getElem_mem ht')
    rw [gt t ht'] at this
    have := Int.mul_le_mul_of_nonneg_right this (show 0 ≤ p.lay by omega)
    omega
theorem crw_iff {h : Hp.Hd} {p : Hp.Ps} (T : Hp.Tls h) (P : POk h p) : Hp.crwB h p = true ↔ ∃ t, ∃ _ : t < (Hp.tl h).length, (65536 < Hp.pkM h p (Hp.tl h)[t] * p.lay ∨ 65536 < bkN h p (Hp.tl h)[t] h.cs.length) := by
  unfold Hp.crwB
  rw [Bool.or_eq_true, any_big T P, decide_eq_true_iff, mx_tot T P]
  have e : ∀ t (ht : t < (Hp.tl h).length), Hp.tlN h t = (Hp.tl h)[t] := by
    intro t ht
    unfold Hp.tlN
    rw [List.getD_eq_getElem?_getD, List.getElem?_eq_getElem ht]
    rfl
  constructor
  · rintro (⟨t, ht, hk⟩ | ⟨t, ht, hk⟩)
    · have ht' : t < (Hp.tl h).length := by rw [T.len]; exact ht
      exact ⟨t, ht', .inr (by rw [← e t ht']; exact hk)⟩
    · have ht' : t < (Hp.tl h).length := by rw [T.len]; exact ht
      exact ⟨t, ht', .inl (by rw [← e t ht']; exact hk)⟩
  · rintro ⟨t, ht, hk | hk⟩
    · exact .inr ⟨t, by rw [← T.len]; exact ht, by rw [e t ht]; exact hk⟩
    · exact .inl ⟨t, by rw [← T.len]; exact ht, by rw [e t ht]; exact hk⟩
theorem tile_v {h : Hp.Hd} (T : Hp.Tls h) {t : Nat} (ht : t < (Hp.tl h).length) : Pl.validB (Hp.tl h)[t].x0 (Hp.tl h)[t].y0 (Hp.tl h)[t].x1 (Hp.tl h)[t].y1 = true := by
  have e : Hp.tlN h t = (Hp.tl h)[t] := by
    unfold Hp.tlN
    rw [List.getD_eq_getElem?_getD, List.getElem?_eq_getElem ht]
    rfl
  have := T.valid (t := t) (by rw [← T.len]; exact ht)
  rw [e] at this
  exact this


theorem Pl.grid_wrap {a b c d w h : Int} (ax : Pl.Axis a c w (Pl.fd a w) (Pl.cd c w)) (ay : Pl.Axis b d h (Pl.fd b h) (Pl.cd d h)) :
    wrap64 ((Pl.cd c w - Pl.fd a w) * (Pl.cd d h - Pl.fd b h)) = ((Pl.nX a c w * Pl.nX b d h : Nat) : Int) := by
  have h1 := ax.lo
  have h2 := ax.lt
  have h3 := ax.hi
  have h4 := ay.lo
  have h5 := ay.lt
  have h6 := ay.hi
  have hv : Pl.validB (Pl.fd a w) (Pl.fd b h) (Pl.cd c w) (Pl.cd d h) = true := Pl.valid_iff.2 ⟨h1, by omega, h3, h4, by omega, h6⟩
  rw [Pl.area_wrap hv, Pl.area_grid ax ay]
/-- What stands at the head of a round: a row of n parts, the box, old memory. -/
structure RowGt (a b c d w h : Int) (nx : Nat) (B n : Nat) (W wr : World) (v : Value) : Prop where
  own : wr.ownsRow (B + 1) 23 4 v n (Pl.flat (Pl.partsN a b c d w h nx n))
  below : Below B W wr
  box : Box wr B ⟨a, b, c, d⟩
theorem RowGt.alloc {a b c d w h : Int} {nx B n : Nat} {W wr : World} {v : Value} (g : RowGt a b c d w h nx B n W wr v) (cs : Array Value) (t : TypeId) : RowGt a b c d w h nx B n W (wr.alloc (.cells cs t)) v :=
  ⟨g.own.alloc _, g.below.alloc (by have := g.box.lt; omega) _, g.box.alloc _ _⟩
theorem RowGt.call {a b c d w h : Int} {nx B n : Nat} {W wr w1 : World} {v : Value} (g : RowGt a b c d w h nx B n W wr v) (hb : Below wr.heap.size wr w1) : RowGt a b c d w h nx B n W w1 v :=
  ⟨own_below g.own hb (Nat.le_refl _), bcall g.below hb (by have := g.box.lt; omega), g.box.below hb⟩
theorem RowGt.push {a b c d w h : Int} {nx B i j : Nat} {W wr w1 : World} {v v' : Value} (g : RowGt a b c d w h nx B (j * nx + i) W wr v) (hi : i < nx) (hg : wr.grownBy w1 v.ownBlock) {p : Pl.R} (hp : p = Pl.part a b c d w h (Pl.fd a w + (i : Int)) (Pl.fd b h + (j : Int)))
    (hown : w1.ownsRow (B + 1) 23 4 v' (j * nx + i + 1) (Pl.flat (Pl.partsN a b c d w h nx (j * nx + i)) ++ [.int .i64 p.x0, .int .i64 p.y0, .int .i64 p.x1, .int .i64 p.y1])) : RowGt a b c d w h nx B (j * nx + i + 1) W w1 v' := by
  have hl := g.own.lt
  have ne : ∀ k, k ≤ B → some k ≠ v.ownBlock := fun k hk e => by have := (hl k e.symm).1; omega
  refine ⟨?_, g.below.grown hg (by have := g.box.lt; omega) (fun k hk => by have := (hl k hk).1; omega), g.box.grown hg (ne B (Nat.le_refl _))⟩
  subst hp
  rw [Pl.partsN_succ _ _ _ _ _ _ hi, Pl.flat_append]
  exact hown
def OutRg (a b c d w h : Int) (nx ny B : Nat) (W : World) (v j : Value) (wr : World) : Prop :=
  ∃ k : Nat, k ≤ ny ∧ j = .int .i64 (Pl.fd b h + (k : Int)) ∧ RowGt a b c d w h nx B (k * nx + 0) W wr v
def InRg (a b c d w h : Int) (nx B k : Nat) (W : World) (v i : Value) (wr : World) : Prop :=
  ∃ m : Nat, m ≤ nx ∧ i = .int .i64 (Pl.fd a w + (m : Int)) ∧ RowGt a b c d w h nx B (k * nx + m) W wr v
set_option maxRecDepth 100000 in
set_option maxHeartbeats 2000000 in
theorem rcells_no1 (a b c d w h : Int) (W : World) (hv : Pl.validB a b c d = false) :
    Calls Try.prog 38 #[.agg #[.int .i64 a, .int .i64 b, .int .i64 c, .int .i64 d], .int .i64 w, .int .i64 h] W (GivesRects [] W) := by
  go_enter Try.func38, Try.ntmps38
  go_wp2_with fail
  refine (valid_r _ _ _ _ _).mono ?_
  rintro e w1 ⟨rfl, hb1⟩
  have x1 := (Box.fresh W a b c d 23).below hb1
  have B1 : Below W.heap.size W w1 := bcall ((Below.refl _ _).alloc (Nat.le_refl _) _) hb1 (by simp)
  obtain ⟨c0, c1, c2, c3⟩ := x1.open
  clear hb1
  go_wp2
  go_ret
  exact ⟨none, 0, rfl, .inl rfl, B1⟩
set_option maxRecDepth 100000 in
set_option maxHeartbeats 2000000 in
theorem rcells_no2 (a b c d w h : Int) (W : World) (hv : Pl.validB a b c d = true) (he : Pl.emptyB a b c d = true) :
    Calls Try.prog 38 #[.agg #[.int .i64 a, .int .i64 b, .int .i64 c, .int .i64 d], .int .i64 w, .int .i64 h] W (GivesRects [] W) := by
  go_enter Try.func38, Try.ntmps38
  go_wp2_with fail
  refine (valid_r _ _ _ _ _).mono ?_
  rintro e w1 ⟨rfl, hb1⟩
  have x1 := (Box.fresh W a b c d 23).below hb1
  have B1 : Below W.heap.size W w1 := bcall ((Below.refl _ _).alloc (Nat.le_refl _) _) hb1 (by simp)
  obtain ⟨c0, c1, c2, c3⟩ := x1.open
  clear hb1
  go_wp2_with fail
  refine (empty_r _ _ _ _ _).mono ?_
  rintro e w2 ⟨rfl, hb2⟩
  have x2 := x1.below hb2
  have B2 : Below W.heap.size W w2 := bcall B1 hb2 (by have := x1.lt; omega)
  clear c0 c1 c2 c3 hb2 x1 B1
  obtain ⟨c0, c1, c2, c3⟩ := x2.open
  have hx2 := x2.lt
  go_wp2
  go_ret
  exact ⟨none, 0, rfl, .inl rfl, B2⟩
set_option maxRecDepth 100000 in
set_option maxHeartbeats 2000000 in
theorem rcells_no3 (a b c d w h : Int) (W : World) (hv : Pl.validB a b c d = true) (he : Pl.emptyB a b c d = false) (hw : w < 1) :
    Calls Try.prog 38 #[.agg #[.int .i64 a, .int .i64 b, .int .i64 c, .int .i64 d], .int .i64 w, .int .i64 h] W (GivesRects [] W) := by
  go_enter Try.func38, Try.ntmps38
  go_wp2_with fail
  refine (valid_r _ _ _ _ _).mono ?_
  rintro e w1 ⟨rfl, hb1⟩
  have x1 := (Box.fresh W a b c d 23).below hb1
  have B1 : Below W.heap.size W w1 := bcall ((Below.refl _ _).alloc (Nat.le_refl _) _) hb1 (by simp)
  obtain ⟨c0, c1, c2, c3⟩ := x1.open
  clear hb1
  go_wp2_with fail
  refine (empty_r _ _ _ _ _).mono ?_
  rintro e w2 ⟨rfl, hb2⟩
  have x2 := x1.below hb2
  have B2 : Below W.heap.size W w2 := bcall B1 hb2 (by have := x1.lt; omega)
  clear c0 c1 c2 c3 hb2 x1 B1
  obtain ⟨c0, c1, c2, c3⟩ := x2.open
  have hx2 := x2.lt
  go_wp2
  go_ret
  exact ⟨none, 0, rfl, .inl rfl, B2⟩
set_option maxRecDepth 100000 in
set_option maxHeartbeats 2000000 in
theorem rcells_no4 (a b c d w h : Int) (W : World) (hv : Pl.validB a b c d = true) (he : Pl.emptyB a b c d = false) (hw : 1 ≤ w) (hh : h < 1) :
    Calls Try.prog 38 #[.agg #[.int .i64 a, .int .i64 b, .int .i64 c, .int .i64 d], .int .i64 w, .int .i64 h] W (GivesRects [] W) := by
  go_enter Try.func38, Try.ntmps38
  go_wp2_with fail
  refine (valid_r _ _ _ _ _).mono ?_
  rintro e w1 ⟨rfl, hb1⟩
  have x1 := (Box.fresh W a b c d 23).below hb1
  have B1 : Below W.heap.size W w1 := bcall ((Below.refl _ _).alloc (Nat.le_refl _) _) hb1 (by simp)
  obtain ⟨c0, c1, c2, c3⟩ := x1.open
  clear hb1
  go_wp2_with fail
  refine (empty_r _ _ _ _ _).mono ?_
  rintro e w2 ⟨rfl, hb2⟩
  have x2 := x1.below hb2
  have B2 : Below W.heap.size W w2 := bcall B1 hb2 (by have := x1.lt; omega)
  clear c0 c1 c2 c3 hb2 x1 B1
  obtain ⟨c0, c1, c2, c3⟩ := x2.open
  have hx2 := x2.lt
  go_wp2
  go_ret
  exact ⟨none, 0, rfl, .inl rfl, B2⟩
set_option maxRecDepth 100000 in
set_option maxHeartbeats 2000000 in
theorem rcells_no5 (a b c d w h : Int) (W : World) (hv : Pl.validB a b c d = true) (he : Pl.emptyB a b c d = false) (hw : 1 ≤ w) (hh : 1 ≤ h) (hn : ¬ Pl.nX a c w * Pl.nX b d h ≤ 65536) :
    Calls Try.prog 38 #[.agg #[.int .i64 a, .int .i64 b, .int .i64 c, .int .i64 d], .int .i64 w, .int .i64 h] W (GivesRects [] W) := by
  obtain ⟨v1, v2, v3, v4, v5, v6⟩ := Pl.valid_iff.1 hv
  obtain ⟨e1, e2⟩ := Pl.empty_not.1 he
  have ax := Pl.axis hw v1 e1 v3
  have ay := Pl.axis hh v4 e2 v6
  have axl := ax.lo
  have axh := ax.hi
  have axt := ax.lt
  have ayl := ay.lo
  have ayh := ay.hi
  have ayt := ay.lt
  obtain ⟨C, hC⟩ : ∃ C : Nat, C = Pl.nX a c w * Pl.nX b d h := ⟨_, rfl⟩
  have hA := Pl.grid_wrap ax ay
  rw [← hC] at hA hn
  have HC : Hid _ := hC
  clear hC
  have hn' : 65536 < C := by omega
  go_enter Try.func38, Try.ntmps38
  go_wp2_with fail
  refine (valid_r _ _ _ _ _).mono ?_
  rintro e w1 ⟨rfl, hb1⟩
  have x1 := (Box.fresh W a b c d 23).below hb1
  have B1 : Below W.heap.size W w1 := bcall ((Below.refl _ _).alloc (Nat.le_refl _) _) hb1 (by simp)
  obtain ⟨c0, c1, c2, c3⟩ := x1.open
  clear hb1
  go_wp2_with fail
  refine (empty_r _ _ _ _ _).mono ?_
  rintro e w2 ⟨rfl, hb2⟩
  have x2 := x1.below hb2
  have B2 : Below W.heap.size W w2 := bcall B1 hb2 (by have := x1.lt; omega)
  clear c0 c1 c2 c3 hb2 x1 B1
  obtain ⟨c0, c1, c2, c3⟩ := x2.open
  have hx2 := x2.lt
  go_wp2_with fail
  refine (fd_r _ _ _ (by omega) (by omega)).mono ?_
  rintro e w3 ⟨rfl, rfl⟩
  go_wp2_with fail
  refine (cd_r _ _ _ (by omega) (by omega)).mono ?_
  rintro e w3 ⟨rfl, rfl⟩
  go_wp2_with fail
  refine (fd_r _ _ _ (by omega) (by omega)).mono ?_
  rintro e w3 ⟨rfl, rfl⟩
  go_wp2_with fail
  refine (cd_r _ _ _ (by omega) (by omega)).mono ?_
  rintro e w3 ⟨rfl, rfl⟩
  go_wp2
  go_ret
  exact ⟨none, 0, rfl, .inl rfl, B2⟩
set_option maxRecDepth 100000 in
set_option maxHeartbeats 2000000 in
theorem rcells_yes (a b c d w h : Int) (W : World) (hv : Pl.validB a b c d = true) (he : Pl.emptyB a b c d = false) (hw : 1 ≤ w) (hh : 1 ≤ h) (hw' : w ≤ 9223372036854775807) (hh' : h ≤ 9223372036854775807) (hn : Pl.nX a c w * Pl.nX b d h ≤ 65536) :
    Calls Try.prog 38 #[.agg #[.int .i64 a, .int .i64 b, .int .i64 c, .int .i64 d], .int .i64 w, .int .i64 h] W (GivesRects (Pl.partsN a b c d w h (Pl.nX a c w) (Pl.nX b d h * Pl.nX a c w)) W) := by
  obtain ⟨v1, v2, v3, v4, v5, v6⟩ := Pl.valid_iff.1 hv
  obtain ⟨e1, e2⟩ := Pl.empty_not.1 he
  have ax := Pl.axis hw v1 e1 v3
  have ay := Pl.axis hh v4 e2 v6
  have axl := ax.lo
  have axh := ax.hi
  have axt := ax.lt
  have ayl := ay.lo
  have ayh := ay.hi
  have ayt := ay.lt
  obtain ⟨C, hC⟩ : ∃ C : Nat, C = Pl.nX a c w * Pl.nX b d h := ⟨_, rfl⟩
  have hA := Pl.grid_wrap ax ay
  rw [← hC] at hA hn
  have HC : Hid _ := hC
  clear hC
  obtain ⟨i0, hi, hz0, hz1, hz2⟩ := info_parts infoR
  go_enter Try.func38, Try.ntmps38
  go_wp2_with fail
  refine (valid_r _ _ _ _ _).mono ?_
  rintro e w1 ⟨rfl, hb1⟩
  have x1 := (Box.fresh W a b c d 23).below hb1
  have B1 : Below W.heap.size W w1 := bcall ((Below.refl _ _).alloc (Nat.le_refl _) _) hb1 (by simp)
  obtain ⟨c0, c1, c2, c3⟩ := x1.open
  clear hb1
  go_wp2_with fail
  refine (empty_r _ _ _ _ _).mono ?_
  rintro e w2 ⟨rfl, hb2⟩
  have x2 := x1.below hb2
  have B2 : Below W.heap.size W w2 := bcall B1 hb2 (by have := x1.lt; omega)
  clear c0 c1 c2 c3 hb2 x1 B1
  obtain ⟨c0, c1, c2, c3⟩ := x2.open
  have hx2 := x2.lt
  go_wp2_with fail
  refine (fd_r _ _ _ (by omega) (by omega)).mono ?_
  rintro e w3 ⟨rfl, rfl⟩
  go_wp2_with fail
  refine (cd_r _ _ _ (by omega) (by omega)).mono ?_
  rintro e w3 ⟨rfl, rfl⟩
  go_wp2_with fail
  refine (fd_r _ _ _ (by omega) (by omega)).mono ?_
  rintro e w3 ⟨rfl, rfl⟩
  go_wp2_with fail
  refine (cd_r _ _ _ (by omega) (by omega)).mono ?_
  rintro e w3 ⟨rfl, rfl⟩
  have G5 : RowGt a b c d w h (Pl.nX a c w) W.heap.size 0 W w2 (.slice none 0 0) := ⟨World.ownsRow_nil _ _ _ _, B2, x2⟩
  clear c0 c1 c2 c3 x2 B2
  obtain ⟨nx1, nx2⟩ := Pl.nX_eq ax
  obtain ⟨ny1, ny2⟩ := Pl.nX_eq ay
  go_wp2_with fail
  clear hA
  go_loopw [11, 12] (fun v j wr => OutRg a b c d w h (Pl.nX a c w) (Pl.nX b d h) W.heap.size W v j wr) (fun _ j _ => (Pl.cd d h - intOf j).toNat)
  case atStart => exact ⟨0, by omega, by simp, by simpa using G5⟩
  case round =>
    obtain ⟨k, hk, rfl, G⟩ := hrel
    clear G5
    obtain ⟨wo, rfl⟩ : ∃ wo : World, wo = wr := ⟨_, rfl⟩
    by_cases hlt : k < Pl.nX b d h
    · have hd : decide (Pl.fd b h + (k : Int) < Pl.cd d h) = true := by simp; omega
      go_wp2_with fail
      go_loopw [11, 13] (fun v i wr => InRg a b c d w h (Pl.nX a c w) W.heap.size k W v i wr) (fun _ i _ => (Pl.cd c w - intOf i).toNat)
      case atStart => exact ⟨0, by omega, by simp, G⟩
      case round =>
        obtain ⟨m, hm, rfl, G'⟩ := hrel
        clear G
        by_cases hmt : m < Pl.nX a c w
        · obtain ⟨f1, f2, f3, p0, p1, p2⟩ := ax.fits hw hw' v3 (i := Pl.fd a w + (m : Int)) (by omega) (by omega)
          obtain ⟨f1', f2', f3', p0', p1', p2'⟩ := ay.fits hh hh' v6 (i := Pl.fd b h + (k : Int)) (by omega) (by omega)
          have hcap := Pl.cells_cap hmt hlt (HC.out ▸ hn)
          obtain ⟨q0, q1, q2, q3⟩ := G'.box.open
          have hbl := G'.box.lt
          clear f2 f2'
          go_wp2_with fail
          refine (isec_r _ _ _ _ _ _ _ _ _).mono ?_
          rintro e w7 ⟨rfl, hb7⟩
          have G7 := G'.call hb7
          have hbl7 := G7.box.lt
          clear hb7 q0 q1 q2 q3 f1 f3 f1' f3'
          go_wp2_with (first | (at_builtin; refine wpList_append_own _ rfl _ _ 58 rfl (W.heap.size + 1) 23 i0 (.agg #[.int .i64 0, .int .i64 0, .int .i64 0, .int .i64 0]) 4 32 Try.underlying58 hi hz0 hz1 hz2 rfl (by decide) _ _ _ rfl (G7.own.alloc _) ⟨w7.heap.size, 0, none⟩ 1 1 [.int .i64 (Pl.isec a b c d ((Pl.fd a w + (m : Int)) * w) ((Pl.fd b h + (k : Int)) * h) ((Pl.fd a w + (m : Int)) * w + w) ((Pl.fd b h + (k : Int)) * h + h)).x0, .int .i64 (Pl.isec a b c d ((Pl.fd a w + (m : Int)) * w) ((Pl.fd b h + (k : Int)) * h) ((Pl.fd a w + (m : Int)) * w + w) ((Pl.fd b h + (k : Int)) * h + h)).y0, .int .i64 (Pl.isec a b c d ((Pl.fd a w + (m : Int)) * w) ((Pl.fd b h + (k : Int)) * h) ((Pl.fd a w + (m : Int)) * w + w) ((Pl.fd b h + (k : Int)) * h + h)).x1, .int .i64 (Pl.isec a b c d ((Pl.fd a w + (m : Int)) * w) ((Pl.fd b h + (k : Int)) * h) ((Pl.fd a w + (m : Int)) * w + w) ((Pl.fd b h + (k : Int)) * h + h)).y1] rfl rfl ?c1 ?c2 ?c3 ?c4 ?c5 ?_))
          case c1 =>
            intro j u hj
            match j, hj with
            | 0, hj => simp at hj; subst hj; simp [Addr.add]
            | 1, hj => simp at hj; subst hj; simp [Addr.add]
            | 2, hj => simp at hj; subst hj; simp [Addr.add]
            | 3, hj => simp at hj; subst hj; simp [Addr.add]
          case c2 => intro u hu; simp at hu; rcases hu with rfl | rfl | rfl | rfl <;> rfl
          case c3 => unfold maxLen; omega
          case c4 => omega
          case c5 => simp; omega
          intro v' w8 hown8 hgrow8 _
          have G8 := (G7.alloc _ _).push hmt hgrow8 rfl hown8
          clear hown8 hgrow8 G7 G'
          go_wp2
          go_roundw
          case rel => first | exact ⟨m + 1, by omega, by go_num, G8⟩ | ((repeat apply Exists.intro); exact ⟨⟨m + 1, by omega, by go_num, G8⟩, rfl⟩)
          case measure => simp [intOf]; omega
        · obtain rfl : m = Pl.nX a c w := by omega
          go_wp2
          go_roundw
          case rel => exact ⟨k + 1, by omega, by go_num, by rw [Nat.add_mul, Nat.one_mul]; exact G'⟩
          case measure => simp [intOf]; omega
    · obtain rfl : k = Pl.nX b d h := by omega
      go_wp2
      go_ret
      obtain ⟨a0, c0, hv0, hH⟩ := row_holds G.own
      exact ⟨a0, c0, by rw [hv0]; rfl, hH, G.below⟩
/-- Cells of the reference, for all arguments. -/
theorem cells_r (a b c d w h : Int) (W : World) (hw' : w ≤ 9223372036854775807) (hh' : h ≤ 9223372036854775807) :
    Calls Try.prog 38 #[.agg #[.int .i64 a, .int .i64 b, .int .i64 c, .int .i64 d], .int .i64 w, .int .i64 h] W (GivesRects (Pl.cellsL a b c d w h) W) := by
  unfold Pl.cellsL
  by_cases hv : Pl.validB a b c d = true
  · by_cases he : Pl.emptyB a b c d = true
    · rw [if_neg (by rw [he]; simp)]; exact rcells_no2 a b c d w h W hv he
    · have he' : Pl.emptyB a b c d = false := by simpa using he
      by_cases hw : 1 ≤ w
      · by_cases hh : 1 ≤ h
        · by_cases hn : Pl.nX a c w * Pl.nX b d h ≤ 65536
          · rw [if_pos ⟨hv, he', hw, hh, hn⟩]; exact rcells_yes a b c d w h W hv he' hw hh hw' hh' hn
          · rw [if_neg (fun q => hn q.2.2.2.2)]; exact rcells_no5 a b c d w h W hv he' hw hh hn
        · rw [if_neg (fun q => hh q.2.2.2.1)]; exact rcells_no4 a b c d w h W hv he' hw (by omega)
      · rw [if_neg (fun q => hw q.2.2.1)]; exact rcells_no3 a b c d w h W hv he' (by omega)
  · rw [if_neg (fun q => hv q.1)]; exact rcells_no1 a b c d w h W (by simpa using hv)


/-- What Check keeps in memory. -/
structure CkS (W : World) (h : Hp.Hd) (p : Hp.Ps) (sh s s2 : Option Addr) (mh m m2 : Nat) (w : World) : Prop where
  bl : Below W.heap.size W w
  bh : Blk w W.heap.size 26 (hvA h sh mh)
  bp : Blk w (W.heap.size + 1) 35 (pvA p s m s2 m2)
  hC : HoldsC w sh h.cs
  hP : HoldsP w s p.prec
  hS : HoldsI w s2 p.steps
theorem CkS.below {W : World} {h : Hp.Hd} {p : Hp.Ps} {sh s s2 : Option Addr} {mh m m2 : Nat} {w w' : World} (a : CkS W h p sh s s2 mh m m2 w) (hb : Below w.heap.size w w') : CkS W h p sh s s2 mh m m2 w' :=
  ⟨a.bl.trans (hb.mono a.bl.size), a.bh.below hb, a.bp.below hb, a.hC.below hb (Nat.le_refl _), a.hP.below hb (Nat.le_refl _), a.hS.below hb (Nat.le_refl _)⟩
set_option maxHeartbeats 16000000 in
theorem rcheck_c (h : Hp.Hd) (p : Hp.Ps) (sh s s2 : Option Addr) (mh m m2 : Nat) (W : World) (l1 : h.cs.length ≤ 4398046511104) (l2 : p.prec.length ≤ 4398046511104) (l3 : p.steps.length ≤ 4398046511104) (hC : HoldsC W sh h.cs) (hP : HoldsP W s p.prec) (hS : HoldsI W s2 p.steps) :
    Calls Try.prog 12 #[.agg (hvA h sh mh), .agg (pvA p s m s2 m2)] W fun e w' => e = .returned (.int .i64 (Hp.chkM h p)) ∧ Below W.heap.size W w' := by
  obtain ⟨WB, hWB⟩ : ∃ ww, ww = ((W.alloc (.cells (hvA h sh mh) 26)).alloc (.cells (pvA p s m s2 m2) 35)) := ⟨_, rfl⟩
  have hb0 : Below W.heap.size W WB := by rw [hWB]; exact below_alloc (below_alloc (Below.refl _ W) (Nat.le_refl _) _) (by simp) _
  have n1 := Blk.new W 26 (hvA h sh mh)
  have n2' := Blk.new (W.alloc (.cells (hvA h sh mh) 26)) 35 (pvA p s m s2 m2)
  have q1 : Blk WB W.heap.size 26 (hvA h sh mh) := by rw [hWB]; exact n1.alloc _
  have q2 : Blk WB (W.heap.size + 1) 35 (pvA p s m s2 m2) := by rw [hWB]; exact (show Blk _ (W.heap.size + 1) _ _ by simpa using n2')
  have A0 := Lib.hid (show CkS W h p sh s s2 mh m m2 WB from ⟨hb0, q1, q2, hC.below hb0 (Nat.le_refl _), hP.below hb0 (Nat.le_refl _), hS.below hb0 (Nat.le_refl _)⟩)
  have KH := Lib.hid (fun (w : World) (a : CkS W h p sh s s2 mh m m2 w) => rheader_c h sh mh w l1 a.hC)
  have KK := Lib.hid (fun w : World => rkinds_c p s s2 m m2 w)
  have KN := Lib.hid (fun (w : World) (a : CkS W h p sh s s2 mh m m2 w) => rnumbers_c p s s2 m m2 w l2 l3 a.hP a.hS)
  have HM := Lib.hid (show Hp.chkM h p = if Hp.headM h ≠ 0 then Hp.headM h else if Hp.knB p = false then 3 else if (Hp.numB p && (Hp.fitB p && Hp.colB h p)) = false then 13 else if Hp.crwB h p = true then 5 else 0 from rfl)
  have HW2 := hWB
  clear n1 n2' q1 q2 hb0 hWB hC hP hS
  show Calls Try.prog 12 #[.agg #[.int .i64 h.a, .int .i64 h.b, .int .i64 h.c, .int .i64 h.d, .int .i64 h.tw, .int .i64 h.th, .slice sh h.cs.length mh], .agg #[.int .i64 p.kern, .int .i64 p.lev, .int .i64 p.col, .int .i64 p.bx, .int .i64 p.yb, .slice s p.prec.length m, .int .i64 p.ord, .int .i64 p.lay, .bool p.m0, .bool p.m1, .bool p.m2, .bool p.m3, .bool p.m4, .bool p.dv, .bool p.sy, .bool p.fe, .slice s2 p.steps.length m2, .int .i64 p.dead, .int .i64 p.sh]] W _
  unfold hvA pvA at HW2
  by_cases hz : Hp.headM h = 0
  case neg =>
    have e1 : (Hp.headM h != 0) = true := by simpa using hz
    rw [HM.out, if_pos hz]
    clear HM hz
    generalize Hp.headM h = HZ at *
    go_enter Try.func12, Try.ntmps12
    go_upto_region 1 with fail
    rw [← HW2]
    clear HW2
    go_wp2_with (first | (refine wpList_load_mid rfl 26 (.tmp 2) rfl W.heap.size 0 rfl (hvA h sh mh).toList _ A0.out.bh.range Try.underlying26 rfl info7 ?_) | (go_at_call 35; (with_reducible refine (KH.out _ A0.out).mono ?_); rintro e w1 ⟨rfl, hb⟩; have A1 := Lib.hid (A0.out.below hb); clear hb) | fail)
    go_ret
    exact ⟨rfl, A1.out.bl⟩
  case pos =>
  rw [hz] at KH
  cases hk : Hp.knB p with
  | false =>
    rw [hk] at KK
    rw [HM.out, if_neg (by rw [hz]; decide), if_pos hk]
    clear HM hz hk
    go_enter Try.func12, Try.ntmps12
    go_upto_region 1 with fail
    rw [← HW2]
    clear HW2
    go_wp2_with (first | (refine wpList_load_mid rfl 26 (.tmp 2) rfl W.heap.size 0 rfl (hvA h sh mh).toList _ A0.out.bh.range Try.underlying26 rfl info7 ?_) | (go_at_call 35; (with_reducible refine (KH.out _ A0.out).mono ?_); rintro e w1 ⟨rfl, hb⟩; have A1 := Lib.hid (A0.out.below hb); clear hb) | (refine wpList_load_mid rfl 35 (.tmp 3) rfl (W.heap.size + 1) 0 rfl (pvA p s m s2 m2).toList _ A1.out.bp.range Try.underlying35 rfl info19 ?_) | (go_at_call 36; (with_reducible refine (KK.out _).mono ?_); rintro e w2 ⟨rfl, hb⟩; have A2 := Lib.hid (A1.out.below hb); clear hb) | fail)
    go_ret
    exact ⟨rfl, A2.out.bl⟩
  | true =>
  rw [hk] at KK
  cases hnf : (Hp.numB p && Hp.fitB p) with
  | false =>
    rw [hnf] at KN
    rw [HM.out, if_neg (by rw [hz]; decide), if_neg (by rw [hk]; decide), if_pos (by rw [← Bool.and_assoc, hnf]; rfl)]
    clear HM hz hk hnf
    go_enter Try.func12, Try.ntmps12
    go_upto_region 1 with fail
    rw [← HW2]
    clear HW2
    go_wp2_with (first | (refine wpList_load_mid rfl 26 (.tmp 2) rfl W.heap.size 0 rfl (hvA h sh mh).toList _ A0.out.bh.range Try.underlying26 rfl info7 ?_) | (go_at_call 35; (with_reducible refine (KH.out _ A0.out).mono ?_); rintro e w1 ⟨rfl, hb⟩; have A1 := Lib.hid (A0.out.below hb); clear hb) | (refine wpList_load_mid rfl 35 (.tmp 3) rfl (W.heap.size + 1) 0 rfl (pvA p s m s2 m2).toList _ A1.out.bp.range Try.underlying35 rfl info19 ?_) | (go_at_call 36; (with_reducible refine (KK.out _).mono ?_); rintro e w2 ⟨rfl, hb⟩; have A2 := Lib.hid (A1.out.below hb); clear hb) | (refine wpList_load_mid rfl 35 (.tmp 3) rfl (W.heap.size + 1) 0 rfl (pvA p s m s2 m2).toList _ A2.out.bp.range Try.underlying35 rfl info19 ?_) | (go_at_call 37; (with_reducible refine (KN.out _ A2.out).mono ?_); rintro e w3 ⟨rfl, hb⟩; have A3 := Lib.hid (A2.out.below hb); clear hb) | fail)
    go_ret
    exact ⟨rfl, A3.out.bl⟩
  | true =>
  rw [hnf] at KN
  obtain ⟨hn, hf⟩ := Bool.and_eq_true_iff.1 hnf
  have HPO := Lib.hid (pok hz hn hf)
  have hd := (head_zero hz).1
  have HT := Lib.hid (Hp.tls hd (head_zero hz).2.1)
  have HCB := Lib.hid (show Hp.colB h p = (decide (p.col = 0) || (decide (3 ≤ h.cs.length) && (decide (h.cs[0]? = h.cs[1]?) && decide (h.cs[1]? = h.cs[2]?)))) from rfl)
  have heq := eqCm
  have HFEW := Lib.hid HPO.out.few
  obtain ⟨hvv, _, ⟨tw1, tw2⟩, ⟨th1, th2⟩, _, _⟩ := hdB_facts hd
  have KL := fun w : World => cells_r h.a h.b h.c h.d h.tw h.th w (by omega) (by omega)
  have etl : Pl.cellsL h.a h.b h.c h.d h.tw h.th = Hp.tl h := rfl
  rw [etl] at KL
  have HKL := Lib.hid KL
  clear hvv tw1 tw2 th1 th2 KL etl
  cases hcl : Hp.colB h p with
  | false =>
    have HMM := Lib.hid (show Hp.chkM h p = 13 by rw [HM.out, if_neg (by rw [hz]; decide), if_neg (by rw [hk]; decide), if_pos (by rw [hn, hf, hcl]; rfl)])
    rw [hcl] at HCB
    have h0 : ¬ p.col = 0 := fun q => by have := HCB.out; simp [q] at this
    have t0 : (p.col == 0) = false := by simp [h0]
    have t00 : (p.col != 0) = true := by simp [h0]
    clear HM hz hk hnf hn hf hd HKL HT HPO hcl
    go_enter Try.func12, Try.ntmps12
    go_upto_region 1 with fail
    rw [← HW2]
    clear HW2
    go_upto_region 8 with (first | (refine wpList_load_mid rfl 26 (.tmp 2) rfl W.heap.size 0 rfl (hvA h sh mh).toList _ A0.out.bh.range Try.underlying26 rfl info7 ?_) | (go_at_call 35; (with_reducible refine (KH.out _ A0.out).mono ?_); rintro e w1 ⟨rfl, hb⟩; have A1 := Lib.hid (A0.out.below hb); clear hb) | (refine wpList_load_mid rfl 35 (.tmp 3) rfl (W.heap.size + 1) 0 rfl (pvA p s m s2 m2).toList _ A1.out.bp.range Try.underlying35 rfl info19 ?_) | (go_at_call 36; (with_reducible refine (KK.out _).mono ?_); rintro e w2 ⟨rfl, hb⟩; have A2 := Lib.hid (A1.out.below hb); clear hb) | (refine wpList_load_mid rfl 35 (.tmp 3) rfl (W.heap.size + 1) 0 rfl (pvA p s m s2 m2).toList _ A2.out.bp.range Try.underlying35 rfl info19 ?_) | (go_at_call 37; (with_reducible refine (KN.out _ A2.out).mono ?_); rintro e w3 ⟨rfl, hb⟩; have A3 := Lib.hid (A2.out.below hb); clear hb) | fail)
    clear A0 A1 A2 KH KK KN
    have p2 := A3.out.bp.get 2 (v := .int .i64 p.col) rfl
    go_upto_region 9 with fail
    obtain ⟨-, -, -, -, -, -, g6⟩ := A3.out.bh.hd
    by_cases h1 : 3 ≤ h.cs.length
    case neg =>
      have t1 : (h.cs.length : Int) < 3 := by omega
      clear HCB
      refine wp_region_held_drew (S := (fun w => Below w3.heap.size w3 w)) (by kernel_rfl) (by (try dsimp only); exact (Below.refl _ _).drew) (fun hHeld => ?_)
      refine takeD (i := 0) (oi := _) (some 22) (v := ?_) rfl rfl (by kernel_rfl) (by kernel_rfl) (by kernel_rfl) (fun _ _ _ h => h) (Or.inl ⟨by rfl, ?_⟩) (by assumption) ?_
      rotate_left
      · (intro w hSw; (try dsimp only at hSw); have z0 := keepr g6 hSw; go_simp; try with_reducible rfl)
      simp only [Act.put, List.setIfInBounds_toArray, List.set]
      refine takeD (i := 1) (oi := _) (some 23) (v := ?_) rfl rfl (by kernel_rfl) (by kernel_rfl) (by kernel_rfl) (fun _ _ _ h => h) (Or.inl ⟨by rfl, ?_⟩) (by assumption) ?_
      rotate_left
      · (intro w hSw; (try dsimp only at hSw); have z0 := keepr g6 hSw; go_simp; try with_reducible rfl)
      simp only [Act.put, List.setIfInBounds_toArray, List.set]
      refine takeD (i := 2) (oi := _) (some 24) (v := ?_) rfl rfl (by kernel_rfl) (by kernel_rfl) (by kernel_rfl) (fun _ _ _ h => h) (Or.inl ⟨by rfl, ?_⟩) (by assumption) ?_
      rotate_left
      · (intro w hSw; (try dsimp only at hSw); have z0 := keepr g6 hSw; go_simp; try with_reducible rfl)
      simp only [Act.put, List.setIfInBounds_toArray, List.set]
      refine takeD (i := 3) (oi := _) (some 25) (v := ?_) rfl rfl (by kernel_rfl) (by kernel_rfl) (by kernel_rfl) (fun _ _ _ h => h) (Or.inl ⟨by rfl, ?_⟩) (by assumption) ?_
      rotate_left
      · (intro w hSw; (try dsimp only at hSw); have z0 := keepr g6 hSw; go_simp; try with_reducible rfl)
      simp only [Act.put, List.setIfInBounds_toArray, List.set]
      refine takeD (i := 4) (oi := _) (some 26) (v := ?_) rfl rfl (by kernel_rfl) (by kernel_rfl) (by kernel_rfl) (fun _ _ _ h => h) (Or.inl ⟨by rfl, ?_⟩) (by assumption) ?_
      rotate_left
      · (intro w hSw; (try dsimp only at hSw); have z0 := keepr g6 hSw; go_simp; try with_reducible rfl)
      simp only [Act.put, List.setIfInBounds_toArray, List.set]
      refine takeD (i := 5) (oi := _) (some 27) (v := undef) rfl rfl (by kernel_rfl) (by kernel_rfl) (by kernel_rfl) (fun _ _ _ h => h) (Or.inr ⟨by rfl, rfl⟩) (by assumption) ?_
      simp only [Act.put, List.setIfInBounds_toArray, List.set]
      refine takeD (i := 6) (oi := _) (some 28) (v := undef) rfl rfl (by kernel_rfl) (by kernel_rfl) (by kernel_rfl) (fun _ _ _ h => h) (Or.inr ⟨by rfl, rfl⟩) (by assumption) ?_
      simp only [Act.put, List.setIfInBounds_toArray, List.set]
      refine takeD (i := 7) (oi := _) (some 29) (v := undef) rfl rfl (by kernel_rfl) (by kernel_rfl) (by kernel_rfl) (fun _ _ _ h => h) (Or.inr ⟨by rfl, rfl⟩) (by assumption) ?_
      simp only [Act.put, List.setIfInBounds_toArray, List.set]
      refine takeD (i := 8) (oi := _) (some 30) (v := undef) rfl rfl (by kernel_rfl) (by kernel_rfl) (by kernel_rfl) (fun _ _ _ h => h) (Or.inr ⟨by rfl, rfl⟩) (by assumption) ?_
      simp only [Act.put, List.setIfInBounds_toArray, List.set]
      refine takeD (i := 9) (oi := _) (some 31) (v := undef) rfl rfl (by kernel_rfl) (by kernel_rfl) (by kernel_rfl) (fun _ _ _ h => h) (Or.inr ⟨by rfl, rfl⟩) (by assumption) ?_
      simp only [Act.put, List.setIfInBounds_toArray, List.set]
      refine takeD (i := 10) (oi := _) (some 32) (v := undef) rfl rfl (by kernel_rfl) (by kernel_rfl) (by kernel_rfl) (fun _ _ _ h => h) (Or.inr ⟨by rfl, rfl⟩) (by assumption) ?_
      simp only [Act.put, List.setIfInBounds_toArray, List.set]
      refine takeD (i := 11) (oi := _) (some 33) (v := undef) rfl rfl (by kernel_rfl) (by kernel_rfl) (by kernel_rfl) (fun _ _ _ h => h) (Or.inr ⟨by rfl, rfl⟩) (by assumption) ?_
      simp only [Act.put, List.setIfInBounds_toArray, List.set]
      refine takeD (i := 12) (oi := _) (some 34) (v := undef) rfl rfl (by kernel_rfl) (by kernel_rfl) (by kernel_rfl) (fun _ _ _ h => h) (Or.inr ⟨by rfl, rfl⟩) (by assumption) ?_
      simp only [Act.put, List.setIfInBounds_toArray, List.set]
      refine takeD (i := 13) (oi := _) (some 35) (v := undef) rfl rfl (by kernel_rfl) (by kernel_rfl) (by kernel_rfl) (fun _ _ _ h => h) (Or.inr ⟨by rfl, rfl⟩) (by assumption) ?_
      simp only [Act.put, List.setIfInBounds_toArray, List.set]
      refine takeD (i := 14) (oi := _) (some 36) (v := ?_) rfl rfl (by kernel_rfl) (by kernel_rfl) (by kernel_rfl) (fun _ _ _ h => h) (Or.inl ⟨by rfl, ?_⟩) (by assumption) ?_
      rotate_left
      · (intro w hSw; (try dsimp only at hSw); have z0 := keepr g6 hSw; go_simp; try with_reducible rfl)
      simp only [Act.put, List.setIfInBounds_toArray, List.set]
      refine takeD (i := 15) (oi := _) (some 37) (v := ?_) rfl rfl (by kernel_rfl) (by kernel_rfl) (by kernel_rfl) (fun _ _ _ h => h) (Or.inl ⟨by rfl, ?_⟩) (by assumption) ?_
      rotate_left
      · (intro w hSw; (try dsimp only at hSw); have z0 := keepr g6 hSw; go_simp; try with_reducible rfl)
      simp only [Act.put, List.setIfInBounds_toArray, List.set]
      refine takeD (i := 16) (oi := _) (some 38) (v := undef) rfl rfl (by kernel_rfl) (by kernel_rfl) (by kernel_rfl) (fun _ _ _ h => h) (Or.inr ⟨by rfl, rfl⟩) (by assumption) ?_
      simp only [Act.put, List.setIfInBounds_toArray, List.set]
      refine takeD (i := 17) (oi := _) (some 39) (v := undef) rfl rfl (by kernel_rfl) (by kernel_rfl) (by kernel_rfl) (fun _ _ _ h => h) (Or.inr ⟨by rfl, rfl⟩) (by assumption) ?_
      simp only [Act.put, List.setIfInBounds_toArray, List.set]
      refine takeD (i := 18) (oi := _) (some 40) (v := undef) rfl rfl (by kernel_rfl) (by kernel_rfl) (by kernel_rfl) (fun _ _ _ h => h) (Or.inr ⟨by rfl, rfl⟩) (by assumption) ?_
      simp only [Act.put, List.setIfInBounds_toArray, List.set]
      refine takeD (i := 19) (oi := _) (some 41) (v := undef) rfl rfl (by kernel_rfl) (by kernel_rfl) (by kernel_rfl) (fun _ _ _ h => h) (Or.inr ⟨by rfl, rfl⟩) (by assumption) ?_
      simp only [Act.put, List.setIfInBounds_toArray, List.set]
      refine takeD (i := 20) (oi := _) (some 42) (v := undef) rfl rfl (by kernel_rfl) (by kernel_rfl) (by kernel_rfl) (fun _ _ _ h => h) (Or.inr ⟨by rfl, rfl⟩) (by assumption) ?_
      simp only [Act.put, List.setIfInBounds_toArray, List.set]
      refine takeD (i := 21) (oi := _) (some 43) (v := undef) rfl rfl (by kernel_rfl) (by kernel_rfl) (by kernel_rfl) (fun _ _ _ h => h) (Or.inr ⟨by rfl, rfl⟩) (by assumption) ?_
      simp only [Act.put, List.setIfInBounds_toArray, List.set]
      refine takeD (i := 22) (oi := _) (some 44) (v := undef) rfl rfl (by kernel_rfl) (by kernel_rfl) (by kernel_rfl) (fun _ _ _ h => h) (Or.inr ⟨by rfl, rfl⟩) (by assumption) ?_
      simp only [Act.put, List.setIfInBounds_toArray, List.set]
      refine takeD (i := 23) (oi := _) (some 45) (v := undef) rfl rfl (by kernel_rfl) (by kernel_rfl) (by kernel_rfl) (fun _ _ _ h => h) (Or.inr ⟨by rfl, rfl⟩) (by assumption) ?_
      simp only [Act.put, List.setIfInBounds_toArray, List.set]
      refine takeD (i := 24) (oi := _) (some 46) (v := undef) rfl rfl (by kernel_rfl) (by kernel_rfl) (by kernel_rfl) (fun _ _ _ h => h) (Or.inr ⟨by rfl, rfl⟩) (by assumption) ?_
      simp only [Act.put, List.setIfInBounds_toArray, List.set]
      refine takeD (i := 25) (oi := _) (some 47) (v := ?_) rfl rfl (by kernel_rfl) (by kernel_rfl) (by kernel_rfl) (fun _ _ _ h => h) (Or.inl ⟨by rfl, ?_⟩) (by assumption) ?_
      rotate_left
      · (intro w hSw; (try dsimp only at hSw); have z0 := keepr g6 hSw; go_simp; try with_reducible rfl)
      simp only [Act.put, List.setIfInBounds_toArray, List.set]
      refine wpAnyH_done (by kernel_rfl) ?_ _
      have A9 := Lib.hid (A3.out.below hHeld)
      clear hHeld
      go_wp2_with fail
      go_ret
      exact ⟨by rw [HMM.out]; first | done | rfl, A9.out.bl⟩
    case pos =>
      have t1 : ¬ (h.cs.length : Int) < 3 := by omega
      rcases A3.out.hC with q | ⟨b, o, hsb, hr⟩
      · rw [q] at h1; simp at h1
      rw [hsb] at g6
      clear hsb
      have k0 := hr 0 (by omega)
      have k1 := hr 1 (by omega)
      have k2 := hr 2 (by omega)
      have e0 : h.cs[0]? = some (h.cs[0]'(by omega)) := List.getElem?_eq_getElem _
      have e1 : h.cs[1]? = some (h.cs[1]'(by omega)) := List.getElem?_eq_getElem _
      have e2 : h.cs[2]? = some (h.cs[2]'(by omega)) := List.getElem?_eq_getElem _
      rw [e0, e1, e2] at HCB
      generalize (h.cs[0]'(by omega)) = c at *
      generalize (h.cs[1]'(by omega)) = d at *
      generalize (h.cs[2]'(by omega)) = f at *
      clear e0 e1 e2 hr
      have hp0 : 0 < h.cs.length := by omega
      have hp1 : 1 < h.cs.length := by omega
      have hp2 : 2 < h.cs.length := by omega
      have hi1 : (1 : Int) < (h.cs.length : Int) := by omega
      have hi2 : (2 : Int) < (h.cs.length : Int) := by omega
      obtain ⟨a0, a1, a2, a3⟩ := k0
      obtain ⟨b0, b1, b2, b3⟩ := k1
      obtain ⟨d0, d1, d2, d3⟩ := k2
      simp only [Nat.zero_mul, Nat.one_mul, Nat.add_zero, Nat.reduceMul, Nat.add_assoc, Nat.reduceAdd] at a0 a1 a2 a3 b0 b1 b2 b3 d0 d1 d2 d3
      cases h2 : eqC c d with
      | false =>
        have h2' := h2
        clear HCB
        refine wp_region_held_drew (S := (fun w => Below w3.heap.size w3 w)) (by kernel_rfl) (by (try dsimp only); exact (Below.refl _ _).drew) (fun hHeld => ?_)
        refine takeD (i := 0) (oi := _) (some 22) (v := ?_) rfl rfl (by kernel_rfl) (by kernel_rfl) (by kernel_rfl) (fun _ _ _ h => h) (Or.inl ⟨by rfl, ?_⟩) (by assumption) ?_
        rotate_left
        · (intro w hSw; (try dsimp only at hSw); have z0 := keepr g6 hSw; have ya0 := keepr a0 hSw; have ya1 := keepr a1 hSw; have ya2 := keepr a2 hSw; have ya3 := keepr a3 hSw; have yb0 := keepr b0 hSw; have yb1 := keepr b1 hSw; have yb2 := keepr b2 hSw; have yb3 := keepr b3 hSw; have yd0 := keepr d0 hSw; have yd1 := keepr d1 hSw; have yd2 := keepr d2 hSw; have yd3 := keepr d3 hSw; go_simp; try with_reducible rfl)
        simp only [Act.put, List.setIfInBounds_toArray, List.set]
        refine takeD (i := 1) (oi := _) (some 23) (v := ?_) rfl rfl (by kernel_rfl) (by kernel_rfl) (by kernel_rfl) (fun _ _ _ h => h) (Or.inl ⟨by rfl, ?_⟩) (by assumption) ?_
        rotate_left
        · (intro w hSw; (try dsimp only at hSw); have z0 := keepr g6 hSw; have ya0 := keepr a0 hSw; have ya1 := keepr a1 hSw; have ya2 := keepr a2 hSw; have ya3 := keepr a3 hSw; have yb0 := keepr b0 hSw; have yb1 := keepr b1 hSw; have yb2 := keepr b2 hSw; have yb3 := keepr b3 hSw; have yd0 := keepr d0 hSw; have yd1 := keepr d1 hSw; have yd2 := keepr d2 hSw; have yd3 := keepr d3 hSw; go_simp; try with_reducible rfl)
        simp only [Act.put, List.setIfInBounds_toArray, List.set]
        refine takeD (i := 2) (oi := _) (some 24) (v := ?_) rfl rfl (by kernel_rfl) (by kernel_rfl) (by kernel_rfl) (fun _ _ _ h => h) (Or.inl ⟨by rfl, ?_⟩) (by assumption) ?_
        rotate_left
        · (intro w hSw; (try dsimp only at hSw); have z0 := keepr g6 hSw; have ya0 := keepr a0 hSw; have ya1 := keepr a1 hSw; have ya2 := keepr a2 hSw; have ya3 := keepr a3 hSw; have yb0 := keepr b0 hSw; have yb1 := keepr b1 hSw; have yb2 := keepr b2 hSw; have yb3 := keepr b3 hSw; have yd0 := keepr d0 hSw; have yd1 := keepr d1 hSw; have yd2 := keepr d2 hSw; have yd3 := keepr d3 hSw; go_simp; try with_reducible rfl)
        simp only [Act.put, List.setIfInBounds_toArray, List.set]
        refine takeD (i := 3) (oi := _) (some 25) (v := ?_) rfl rfl (by kernel_rfl) (by kernel_rfl) (by kernel_rfl) (fun _ _ _ h => h) (Or.inl ⟨by rfl, ?_⟩) (by assumption) ?_
        rotate_left
        · (intro w hSw; (try dsimp only at hSw); have z0 := keepr g6 hSw; have ya0 := keepr a0 hSw; have ya1 := keepr a1 hSw; have ya2 := keepr a2 hSw; have ya3 := keepr a3 hSw; have yb0 := keepr b0 hSw; have yb1 := keepr b1 hSw; have yb2 := keepr b2 hSw; have yb3 := keepr b3 hSw; have yd0 := keepr d0 hSw; have yd1 := keepr d1 hSw; have yd2 := keepr d2 hSw; have yd3 := keepr d3 hSw; go_simp; try with_reducible rfl)
        simp only [Act.put, List.setIfInBounds_toArray, List.set]
        refine takeD (i := 4) (oi := _) (some 26) (v := ?_) rfl rfl (by kernel_rfl) (by kernel_rfl) (by kernel_rfl) (fun _ _ _ h => h) (Or.inl ⟨by rfl, ?_⟩) (by assumption) ?_
        rotate_left
        · (intro w hSw; (try dsimp only at hSw); have z0 := keepr g6 hSw; have ya0 := keepr a0 hSw; have ya1 := keepr a1 hSw; have ya2 := keepr a2 hSw; have ya3 := keepr a3 hSw; have yb0 := keepr b0 hSw; have yb1 := keepr b1 hSw; have yb2 := keepr b2 hSw; have yb3 := keepr b3 hSw; have yd0 := keepr d0 hSw; have yd1 := keepr d1 hSw; have yd2 := keepr d2 hSw; have yd3 := keepr d3 hSw; go_simp; try with_reducible rfl)
        simp only [Act.put, List.setIfInBounds_toArray, List.set]
        refine takeD (i := 5) (oi := _) (some 27) (v := ?_) rfl rfl (by kernel_rfl) (by kernel_rfl) (by kernel_rfl) (fun _ _ _ h => h) (Or.inl ⟨by rfl, ?_⟩) (by assumption) ?_
        rotate_left
        · (intro w hSw; (try dsimp only at hSw); have z0 := keepr g6 hSw; have ya0 := keepr a0 hSw; have ya1 := keepr a1 hSw; have ya2 := keepr a2 hSw; have ya3 := keepr a3 hSw; have yb0 := keepr b0 hSw; have yb1 := keepr b1 hSw; have yb2 := keepr b2 hSw; have yb3 := keepr b3 hSw; have yd0 := keepr d0 hSw; have yd1 := keepr d1 hSw; have yd2 := keepr d2 hSw; have yd3 := keepr d3 hSw; go_simp; try with_reducible rfl)
        simp only [Act.put, List.setIfInBounds_toArray, List.set]
        refine takeD (i := 6) (oi := _) (some 28) (v := ?_) rfl rfl (by kernel_rfl) (by kernel_rfl) (by kernel_rfl) (fun _ _ _ h => h) (Or.inl ⟨by rfl, ?_⟩) (by assumption) ?_
        rotate_left
        · (intro w hSw; (try dsimp only at hSw); have z0 := keepr g6 hSw; have ya0 := keepr a0 hSw; have ya1 := keepr a1 hSw; have ya2 := keepr a2 hSw; have ya3 := keepr a3 hSw; have yb0 := keepr b0 hSw; have yb1 := keepr b1 hSw; have yb2 := keepr b2 hSw; have yb3 := keepr b3 hSw; have yd0 := keepr d0 hSw; have yd1 := keepr d1 hSw; have yd2 := keepr d2 hSw; have yd3 := keepr d3 hSw; go_simp; try with_reducible rfl)
        simp only [Act.put, List.setIfInBounds_toArray, List.set]
        refine takeD (i := 7) (oi := _) (some 29) (v := ?_) rfl rfl (by kernel_rfl) (by kernel_rfl) (by kernel_rfl) (fun _ _ _ h => h) (Or.inl ⟨by rfl, ?_⟩) (by assumption) ?_
        rotate_left
        · (intro w hSw; (try dsimp only at hSw); have z0 := keepr g6 hSw; have ya0 := keepr a0 hSw; have ya1 := keepr a1 hSw; have ya2 := keepr a2 hSw; have ya3 := keepr a3 hSw; have yb0 := keepr b0 hSw; have yb1 := keepr b1 hSw; have yb2 := keepr b2 hSw; have yb3 := keepr b3 hSw; have yd0 := keepr d0 hSw; have yd1 := keepr d1 hSw; have yd2 := keepr d2 hSw; have yd3 := keepr d3 hSw; go_simp; try with_reducible rfl)
        simp only [Act.put, List.setIfInBounds_toArray, List.set]
        refine takeD (i := 8) (oi := _) (some 30) (v := ?_) rfl rfl (by kernel_rfl) (by kernel_rfl) (by kernel_rfl) (fun _ _ _ h => h) (Or.inl ⟨by rfl, ?_⟩) (by assumption) ?_
        rotate_left
        · (intro w hSw; (try dsimp only at hSw); have z0 := keepr g6 hSw; have ya0 := keepr a0 hSw; have ya1 := keepr a1 hSw; have ya2 := keepr a2 hSw; have ya3 := keepr a3 hSw; have yb0 := keepr b0 hSw; have yb1 := keepr b1 hSw; have yb2 := keepr b2 hSw; have yb3 := keepr b3 hSw; have yd0 := keepr d0 hSw; have yd1 := keepr d1 hSw; have yd2 := keepr d2 hSw; have yd3 := keepr d3 hSw; go_simp; try with_reducible rfl)
        simp only [Act.put, List.setIfInBounds_toArray, List.set]
        refine takeD (i := 9) (oi := _) (some 31) (v := ?_) rfl rfl (by kernel_rfl) (by kernel_rfl) (by kernel_rfl) (fun _ _ _ h => h) (Or.inl ⟨by rfl, ?_⟩) (by assumption) ?_
        rotate_left
        · (intro w hSw; (try dsimp only at hSw); have z0 := keepr g6 hSw; have ya0 := keepr a0 hSw; have ya1 := keepr a1 hSw; have ya2 := keepr a2 hSw; have ya3 := keepr a3 hSw; have yb0 := keepr b0 hSw; have yb1 := keepr b1 hSw; have yb2 := keepr b2 hSw; have yb3 := keepr b3 hSw; have yd0 := keepr d0 hSw; have yd1 := keepr d1 hSw; have yd2 := keepr d2 hSw; have yd3 := keepr d3 hSw; go_simp; try with_reducible rfl)
        simp only [Act.put, List.setIfInBounds_toArray, List.set]
        refine takeD (i := 10) (oi := _) (some 32) (v := ?_) rfl rfl (by kernel_rfl) (by kernel_rfl) (by kernel_rfl) (fun _ _ _ h => h) (Or.inl ⟨by rfl, ?_⟩) (by assumption) ?_
        rotate_left
        · (intro w hSw; (try dsimp only at hSw); have z0 := keepr g6 hSw; have ya0 := keepr a0 hSw; have ya1 := keepr a1 hSw; have ya2 := keepr a2 hSw; have ya3 := keepr a3 hSw; have yb0 := keepr b0 hSw; have yb1 := keepr b1 hSw; have yb2 := keepr b2 hSw; have yb3 := keepr b3 hSw; have yd0 := keepr d0 hSw; have yd1 := keepr d1 hSw; have yd2 := keepr d2 hSw; have yd3 := keepr d3 hSw; go_simp; try with_reducible rfl)
        simp only [Act.put, List.setIfInBounds_toArray, List.set]
        refine takeD (i := 11) (oi := _) (some 33) (v := ?_) rfl rfl (by kernel_rfl) (by kernel_rfl) (by kernel_rfl) (fun _ _ _ h => h) (Or.inl ⟨by rfl, ?_⟩) (by assumption) ?_
        rotate_left
        · (intro w hSw; (try dsimp only at hSw); have z0 := keepr g6 hSw; have ya0 := keepr a0 hSw; have ya1 := keepr a1 hSw; have ya2 := keepr a2 hSw; have ya3 := keepr a3 hSw; have yb0 := keepr b0 hSw; have yb1 := keepr b1 hSw; have yb2 := keepr b2 hSw; have yb3 := keepr b3 hSw; have yd0 := keepr d0 hSw; have yd1 := keepr d1 hSw; have yd2 := keepr d2 hSw; have yd3 := keepr d3 hSw; go_simp; try with_reducible rfl)
        simp only [Act.put, List.setIfInBounds_toArray, List.set]
        refine takeD (i := 12) (oi := _) (some 34) (v := ?_) rfl rfl (by kernel_rfl) (by kernel_rfl) (by kernel_rfl) (fun _ _ _ h => h) (Or.inl ⟨by rfl, ?_⟩) (by assumption) ?_
        rotate_left
        · (intro w hSw; (try dsimp only at hSw); have z0 := keepr g6 hSw; have ya0 := keepr a0 hSw; have ya1 := keepr a1 hSw; have ya2 := keepr a2 hSw; have ya3 := keepr a3 hSw; have yb0 := keepr b0 hSw; have yb1 := keepr b1 hSw; have yb2 := keepr b2 hSw; have yb3 := keepr b3 hSw; have yd0 := keepr d0 hSw; have yd1 := keepr d1 hSw; have yd2 := keepr d2 hSw; have yd3 := keepr d3 hSw; go_simp; try with_reducible rfl)
        simp only [Act.put, List.setIfInBounds_toArray, List.set]
        refine takeD (i := 13) (oi := _) (some 35) (v := ?_) rfl rfl (by kernel_rfl) (by kernel_rfl) (by kernel_rfl) (fun _ _ _ h => h) (Or.inl ⟨by rfl, ?_⟩) (by assumption) ?_
        rotate_left
        · (intro w hSw; (try dsimp only at hSw); have z0 := keepr g6 hSw; have ya0 := keepr a0 hSw; have ya1 := keepr a1 hSw; have ya2 := keepr a2 hSw; have ya3 := keepr a3 hSw; have yb0 := keepr b0 hSw; have yb1 := keepr b1 hSw; have yb2 := keepr b2 hSw; have yb3 := keepr b3 hSw; have yd0 := keepr d0 hSw; have yd1 := keepr d1 hSw; have yd2 := keepr d2 hSw; have yd3 := keepr d3 hSw; go_simp; try with_reducible rfl)
        simp only [Act.put, List.setIfInBounds_toArray, List.set]
        refine takeD (i := 14) (oi := _) (some 36) (v := ?_) rfl rfl (by kernel_rfl) (by kernel_rfl) (by kernel_rfl) (fun _ _ _ h => h) (Or.inl ⟨by rfl, ?_⟩) (by assumption) ?_
        rotate_left
        · (intro w hSw; (try dsimp only at hSw); have z0 := keepr g6 hSw; have ya0 := keepr a0 hSw; have ya1 := keepr a1 hSw; have ya2 := keepr a2 hSw; have ya3 := keepr a3 hSw; have yb0 := keepr b0 hSw; have yb1 := keepr b1 hSw; have yb2 := keepr b2 hSw; have yb3 := keepr b3 hSw; have yd0 := keepr d0 hSw; have yd1 := keepr d1 hSw; have yd2 := keepr d2 hSw; have yd3 := keepr d3 hSw; go_simp; try with_reducible rfl)
        simp only [Act.put, List.setIfInBounds_toArray, List.set]
        refine takeD (i := 15) (oi := _) (some 37) (v := ?_) rfl rfl (by kernel_rfl) (by kernel_rfl) (by kernel_rfl) (fun _ _ _ h => h) (Or.inl ⟨by rfl, ?_⟩) (by assumption) ?_
        rotate_left
        · (intro w hSw; (try dsimp only at hSw); have z0 := keepr g6 hSw; have ya0 := keepr a0 hSw; have ya1 := keepr a1 hSw; have ya2 := keepr a2 hSw; have ya3 := keepr a3 hSw; have yb0 := keepr b0 hSw; have yb1 := keepr b1 hSw; have yb2 := keepr b2 hSw; have yb3 := keepr b3 hSw; have yd0 := keepr d0 hSw; have yd1 := keepr d1 hSw; have yd2 := keepr d2 hSw; have yd3 := keepr d3 hSw; go_simp; try with_reducible rfl)
        simp only [Act.put, List.setIfInBounds_toArray, List.set]
        refine takeD (i := 16) (oi := _) (some 38) (v := undef) rfl rfl (by kernel_rfl) (by kernel_rfl) (by kernel_rfl) (fun _ _ _ h => h) (Or.inr ⟨by rfl, rfl⟩) (by assumption) ?_
        simp only [Act.put, List.setIfInBounds_toArray, List.set]
        refine takeD (i := 17) (oi := _) (some 39) (v := undef) rfl rfl (by kernel_rfl) (by kernel_rfl) (by kernel_rfl) (fun _ _ _ h => h) (Or.inr ⟨by rfl, rfl⟩) (by assumption) ?_
        simp only [Act.put, List.setIfInBounds_toArray, List.set]
        refine takeD (i := 18) (oi := _) (some 40) (v := undef) rfl rfl (by kernel_rfl) (by kernel_rfl) (by kernel_rfl) (fun _ _ _ h => h) (Or.inr ⟨by rfl, rfl⟩) (by assumption) ?_
        simp only [Act.put, List.setIfInBounds_toArray, List.set]
        refine takeD (i := 19) (oi := _) (some 41) (v := undef) rfl rfl (by kernel_rfl) (by kernel_rfl) (by kernel_rfl) (fun _ _ _ h => h) (Or.inr ⟨by rfl, rfl⟩) (by assumption) ?_
        simp only [Act.put, List.setIfInBounds_toArray, List.set]
        refine takeD (i := 20) (oi := _) (some 42) (v := undef) rfl rfl (by kernel_rfl) (by kernel_rfl) (by kernel_rfl) (fun _ _ _ h => h) (Or.inr ⟨by rfl, rfl⟩) (by assumption) ?_
        simp only [Act.put, List.setIfInBounds_toArray, List.set]
        refine takeD (i := 21) (oi := _) (some 43) (v := undef) rfl rfl (by kernel_rfl) (by kernel_rfl) (by kernel_rfl) (fun _ _ _ h => h) (Or.inr ⟨by rfl, rfl⟩) (by assumption) ?_
        simp only [Act.put, List.setIfInBounds_toArray, List.set]
        refine takeD (i := 22) (oi := _) (some 44) (v := undef) rfl rfl (by kernel_rfl) (by kernel_rfl) (by kernel_rfl) (fun _ _ _ h => h) (Or.inr ⟨by rfl, rfl⟩) (by assumption) ?_
        simp only [Act.put, List.setIfInBounds_toArray, List.set]
        refine takeD (i := 23) (oi := _) (some 45) (v := undef) rfl rfl (by kernel_rfl) (by kernel_rfl) (by kernel_rfl) (fun _ _ _ h => h) (Or.inr ⟨by rfl, rfl⟩) (by assumption) ?_
        simp only [Act.put, List.setIfInBounds_toArray, List.set]
        refine takeD (i := 24) (oi := _) (some 46) (v := undef) rfl rfl (by kernel_rfl) (by kernel_rfl) (by kernel_rfl) (fun _ _ _ h => h) (Or.inr ⟨by rfl, rfl⟩) (by assumption) ?_
        simp only [Act.put, List.setIfInBounds_toArray, List.set]
        refine takeD (i := 25) (oi := _) (some 47) (v := ?_) rfl rfl (by kernel_rfl) (by kernel_rfl) (by kernel_rfl) (fun _ _ _ h => h) (Or.inl ⟨by rfl, ?_⟩) (by assumption) ?_
        rotate_left
        · (intro w hSw; (try dsimp only at hSw); have z0 := keepr g6 hSw; have ya0 := keepr a0 hSw; have ya1 := keepr a1 hSw; have ya2 := keepr a2 hSw; have ya3 := keepr a3 hSw; have yb0 := keepr b0 hSw; have yb1 := keepr b1 hSw; have yb2 := keepr b2 hSw; have yb3 := keepr b3 hSw; have yd0 := keepr d0 hSw; have yd1 := keepr d1 hSw; have yd2 := keepr d2 hSw; have yd3 := keepr d3 hSw; go_simp; try with_reducible rfl)
        simp only [Act.put, List.setIfInBounds_toArray, List.set]
        refine wpAnyH_done (by kernel_rfl) ?_ _
        have A9 := Lib.hid (A3.out.below hHeld)
        clear hHeld
        go_wp2_with fail
        go_ret
        exact ⟨by rw [HMM.out]; first | done | rfl, A9.out.bl⟩
      | true =>
        have h3 : eqC c f = false := by
          have := HCB.out
          rw [of_decide_eq_true h2] at this ⊢
          simp only [decide_eq_false h0, h1] at this
          simpa [eqC, h1] using this
        clear HCB
        refine wp_region_held_drew (S := (fun w => Below w3.heap.size w3 w)) (by kernel_rfl) (by (try dsimp only); exact (Below.refl _ _).drew) (fun hHeld => ?_)
        refine takeD (i := 0) (oi := _) (some 22) (v := ?_) rfl rfl (by kernel_rfl) (by kernel_rfl) (by kernel_rfl) (fun _ _ _ h => h) (Or.inl ⟨by rfl, ?_⟩) (by assumption) ?_
        rotate_left
        · (intro w hSw; (try dsimp only at hSw); have z0 := keepr g6 hSw; have ya0 := keepr a0 hSw; have ya1 := keepr a1 hSw; have ya2 := keepr a2 hSw; have ya3 := keepr a3 hSw; have yb0 := keepr b0 hSw; have yb1 := keepr b1 hSw; have yb2 := keepr b2 hSw; have yb3 := keepr b3 hSw; have yd0 := keepr d0 hSw; have yd1 := keepr d1 hSw; have yd2 := keepr d2 hSw; have yd3 := keepr d3 hSw; go_simp; try with_reducible rfl)
        simp only [Act.put, List.setIfInBounds_toArray, List.set]
        refine takeD (i := 1) (oi := _) (some 23) (v := ?_) rfl rfl (by kernel_rfl) (by kernel_rfl) (by kernel_rfl) (fun _ _ _ h => h) (Or.inl ⟨by rfl, ?_⟩) (by assumption) ?_
        rotate_left
        · (intro w hSw; (try dsimp only at hSw); have z0 := keepr g6 hSw; have ya0 := keepr a0 hSw; have ya1 := keepr a1 hSw; have ya2 := keepr a2 hSw; have ya3 := keepr a3 hSw; have yb0 := keepr b0 hSw; have yb1 := keepr b1 hSw; have yb2 := keepr b2 hSw; have yb3 := keepr b3 hSw; have yd0 := keepr d0 hSw; have yd1 := keepr d1 hSw; have yd2 := keepr d2 hSw; have yd3 := keepr d3 hSw; go_simp; try with_reducible rfl)
        simp only [Act.put, List.setIfInBounds_toArray, List.set]
        refine takeD (i := 2) (oi := _) (some 24) (v := ?_) rfl rfl (by kernel_rfl) (by kernel_rfl) (by kernel_rfl) (fun _ _ _ h => h) (Or.inl ⟨by rfl, ?_⟩) (by assumption) ?_
        rotate_left
        · (intro w hSw; (try dsimp only at hSw); have z0 := keepr g6 hSw; have ya0 := keepr a0 hSw; have ya1 := keepr a1 hSw; have ya2 := keepr a2 hSw; have ya3 := keepr a3 hSw; have yb0 := keepr b0 hSw; have yb1 := keepr b1 hSw; have yb2 := keepr b2 hSw; have yb3 := keepr b3 hSw; have yd0 := keepr d0 hSw; have yd1 := keepr d1 hSw; have yd2 := keepr d2 hSw; have yd3 := keepr d3 hSw; go_simp; try with_reducible rfl)
        simp only [Act.put, List.setIfInBounds_toArray, List.set]
        refine takeD (i := 3) (oi := _) (some 25) (v := ?_) rfl rfl (by kernel_rfl) (by kernel_rfl) (by kernel_rfl) (fun _ _ _ h => h) (Or.inl ⟨by rfl, ?_⟩) (by assumption) ?_
        rotate_left
        · (intro w hSw; (try dsimp only at hSw); have z0 := keepr g6 hSw; have ya0 := keepr a0 hSw; have ya1 := keepr a1 hSw; have ya2 := keepr a2 hSw; have ya3 := keepr a3 hSw; have yb0 := keepr b0 hSw; have yb1 := keepr b1 hSw; have yb2 := keepr b2 hSw; have yb3 := keepr b3 hSw; have yd0 := keepr d0 hSw; have yd1 := keepr d1 hSw; have yd2 := keepr d2 hSw; have yd3 := keepr d3 hSw; go_simp; try with_reducible rfl)
        simp only [Act.put, List.setIfInBounds_toArray, List.set]
        refine takeD (i := 4) (oi := _) (some 26) (v := ?_) rfl rfl (by kernel_rfl) (by kernel_rfl) (by kernel_rfl) (fun _ _ _ h => h) (Or.inl ⟨by rfl, ?_⟩) (by assumption) ?_
        rotate_left
        · (intro w hSw; (try dsimp only at hSw); have z0 := keepr g6 hSw; have ya0 := keepr a0 hSw; have ya1 := keepr a1 hSw; have ya2 := keepr a2 hSw; have ya3 := keepr a3 hSw; have yb0 := keepr b0 hSw; have yb1 := keepr b1 hSw; have yb2 := keepr b2 hSw; have yb3 := keepr b3 hSw; have yd0 := keepr d0 hSw; have yd1 := keepr d1 hSw; have yd2 := keepr d2 hSw; have yd3 := keepr d3 hSw; go_simp; try with_reducible rfl)
        simp only [Act.put, List.setIfInBounds_toArray, List.set]
        refine takeD (i := 5) (oi := _) (some 27) (v := ?_) rfl rfl (by kernel_rfl) (by kernel_rfl) (by kernel_rfl) (fun _ _ _ h => h) (Or.inl ⟨by rfl, ?_⟩) (by assumption) ?_
        rotate_left
        · (intro w hSw; (try dsimp only at hSw); have z0 := keepr g6 hSw; have ya0 := keepr a0 hSw; have ya1 := keepr a1 hSw; have ya2 := keepr a2 hSw; have ya3 := keepr a3 hSw; have yb0 := keepr b0 hSw; have yb1 := keepr b1 hSw; have yb2 := keepr b2 hSw; have yb3 := keepr b3 hSw; have yd0 := keepr d0 hSw; have yd1 := keepr d1 hSw; have yd2 := keepr d2 hSw; have yd3 := keepr d3 hSw; go_simp; try with_reducible rfl)
        simp only [Act.put, List.setIfInBounds_toArray, List.set]
        refine takeD (i := 6) (oi := _) (some 28) (v := ?_) rfl rfl (by kernel_rfl) (by kernel_rfl) (by kernel_rfl) (fun _ _ _ h => h) (Or.inl ⟨by rfl, ?_⟩) (by assumption) ?_
        rotate_left
        · (intro w hSw; (try dsimp only at hSw); have z0 := keepr g6 hSw; have ya0 := keepr a0 hSw; have ya1 := keepr a1 hSw; have ya2 := keepr a2 hSw; have ya3 := keepr a3 hSw; have yb0 := keepr b0 hSw; have yb1 := keepr b1 hSw; have yb2 := keepr b2 hSw; have yb3 := keepr b3 hSw; have yd0 := keepr d0 hSw; have yd1 := keepr d1 hSw; have yd2 := keepr d2 hSw; have yd3 := keepr d3 hSw; go_simp; try with_reducible rfl)
        simp only [Act.put, List.setIfInBounds_toArray, List.set]
        refine takeD (i := 7) (oi := _) (some 29) (v := ?_) rfl rfl (by kernel_rfl) (by kernel_rfl) (by kernel_rfl) (fun _ _ _ h => h) (Or.inl ⟨by rfl, ?_⟩) (by assumption) ?_
        rotate_left
        · (intro w hSw; (try dsimp only at hSw); have z0 := keepr g6 hSw; have ya0 := keepr a0 hSw; have ya1 := keepr a1 hSw; have ya2 := keepr a2 hSw; have ya3 := keepr a3 hSw; have yb0 := keepr b0 hSw; have yb1 := keepr b1 hSw; have yb2 := keepr b2 hSw; have yb3 := keepr b3 hSw; have yd0 := keepr d0 hSw; have yd1 := keepr d1 hSw; have yd2 := keepr d2 hSw; have yd3 := keepr d3 hSw; go_simp; try with_reducible rfl)
        simp only [Act.put, List.setIfInBounds_toArray, List.set]
        refine takeD (i := 8) (oi := _) (some 30) (v := ?_) rfl rfl (by kernel_rfl) (by kernel_rfl) (by kernel_rfl) (fun _ _ _ h => h) (Or.inl ⟨by rfl, ?_⟩) (by assumption) ?_
        rotate_left
        · (intro w hSw; (try dsimp only at hSw); have z0 := keepr g6 hSw; have ya0 := keepr a0 hSw; have ya1 := keepr a1 hSw; have ya2 := keepr a2 hSw; have ya3 := keepr a3 hSw; have yb0 := keepr b0 hSw; have yb1 := keepr b1 hSw; have yb2 := keepr b2 hSw; have yb3 := keepr b3 hSw; have yd0 := keepr d0 hSw; have yd1 := keepr d1 hSw; have yd2 := keepr d2 hSw; have yd3 := keepr d3 hSw; go_simp; try with_reducible rfl)
        simp only [Act.put, List.setIfInBounds_toArray, List.set]
        refine takeD (i := 9) (oi := _) (some 31) (v := ?_) rfl rfl (by kernel_rfl) (by kernel_rfl) (by kernel_rfl) (fun _ _ _ h => h) (Or.inl ⟨by rfl, ?_⟩) (by assumption) ?_
        rotate_left
        · (intro w hSw; (try dsimp only at hSw); have z0 := keepr g6 hSw; have ya0 := keepr a0 hSw; have ya1 := keepr a1 hSw; have ya2 := keepr a2 hSw; have ya3 := keepr a3 hSw; have yb0 := keepr b0 hSw; have yb1 := keepr b1 hSw; have yb2 := keepr b2 hSw; have yb3 := keepr b3 hSw; have yd0 := keepr d0 hSw; have yd1 := keepr d1 hSw; have yd2 := keepr d2 hSw; have yd3 := keepr d3 hSw; go_simp; try with_reducible rfl)
        simp only [Act.put, List.setIfInBounds_toArray, List.set]
        refine takeD (i := 10) (oi := _) (some 32) (v := ?_) rfl rfl (by kernel_rfl) (by kernel_rfl) (by kernel_rfl) (fun _ _ _ h => h) (Or.inl ⟨by rfl, ?_⟩) (by assumption) ?_
        rotate_left
        · (intro w hSw; (try dsimp only at hSw); have z0 := keepr g6 hSw; have ya0 := keepr a0 hSw; have ya1 := keepr a1 hSw; have ya2 := keepr a2 hSw; have ya3 := keepr a3 hSw; have yb0 := keepr b0 hSw; have yb1 := keepr b1 hSw; have yb2 := keepr b2 hSw; have yb3 := keepr b3 hSw; have yd0 := keepr d0 hSw; have yd1 := keepr d1 hSw; have yd2 := keepr d2 hSw; have yd3 := keepr d3 hSw; go_simp; try with_reducible rfl)
        simp only [Act.put, List.setIfInBounds_toArray, List.set]
        refine takeD (i := 11) (oi := _) (some 33) (v := ?_) rfl rfl (by kernel_rfl) (by kernel_rfl) (by kernel_rfl) (fun _ _ _ h => h) (Or.inl ⟨by rfl, ?_⟩) (by assumption) ?_
        rotate_left
        · (intro w hSw; (try dsimp only at hSw); have z0 := keepr g6 hSw; have ya0 := keepr a0 hSw; have ya1 := keepr a1 hSw; have ya2 := keepr a2 hSw; have ya3 := keepr a3 hSw; have yb0 := keepr b0 hSw; have yb1 := keepr b1 hSw; have yb2 := keepr b2 hSw; have yb3 := keepr b3 hSw; have yd0 := keepr d0 hSw; have yd1 := keepr d1 hSw; have yd2 := keepr d2 hSw; have yd3 := keepr d3 hSw; go_simp; try with_reducible rfl)
        simp only [Act.put, List.setIfInBounds_toArray, List.set]
        refine takeD (i := 12) (oi := _) (some 34) (v := ?_) rfl rfl (by kernel_rfl) (by kernel_rfl) (by kernel_rfl) (fun _ _ _ h => h) (Or.inl ⟨by rfl, ?_⟩) (by assumption) ?_
        rotate_left
        · (intro w hSw; (try dsimp only at hSw); have z0 := keepr g6 hSw; have ya0 := keepr a0 hSw; have ya1 := keepr a1 hSw; have ya2 := keepr a2 hSw; have ya3 := keepr a3 hSw; have yb0 := keepr b0 hSw; have yb1 := keepr b1 hSw; have yb2 := keepr b2 hSw; have yb3 := keepr b3 hSw; have yd0 := keepr d0 hSw; have yd1 := keepr d1 hSw; have yd2 := keepr d2 hSw; have yd3 := keepr d3 hSw; go_simp; try with_reducible rfl)
        simp only [Act.put, List.setIfInBounds_toArray, List.set]
        refine takeD (i := 13) (oi := _) (some 35) (v := ?_) rfl rfl (by kernel_rfl) (by kernel_rfl) (by kernel_rfl) (fun _ _ _ h => h) (Or.inl ⟨by rfl, ?_⟩) (by assumption) ?_
        rotate_left
        · (intro w hSw; (try dsimp only at hSw); have z0 := keepr g6 hSw; have ya0 := keepr a0 hSw; have ya1 := keepr a1 hSw; have ya2 := keepr a2 hSw; have ya3 := keepr a3 hSw; have yb0 := keepr b0 hSw; have yb1 := keepr b1 hSw; have yb2 := keepr b2 hSw; have yb3 := keepr b3 hSw; have yd0 := keepr d0 hSw; have yd1 := keepr d1 hSw; have yd2 := keepr d2 hSw; have yd3 := keepr d3 hSw; go_simp; try with_reducible rfl)
        simp only [Act.put, List.setIfInBounds_toArray, List.set]
        refine takeD (i := 14) (oi := _) (some 36) (v := ?_) rfl rfl (by kernel_rfl) (by kernel_rfl) (by kernel_rfl) (fun _ _ _ h => h) (Or.inl ⟨by rfl, ?_⟩) (by assumption) ?_
        rotate_left
        · (intro w hSw; (try dsimp only at hSw); have z0 := keepr g6 hSw; have ya0 := keepr a0 hSw; have ya1 := keepr a1 hSw; have ya2 := keepr a2 hSw; have ya3 := keepr a3 hSw; have yb0 := keepr b0 hSw; have yb1 := keepr b1 hSw; have yb2 := keepr b2 hSw; have yb3 := keepr b3 hSw; have yd0 := keepr d0 hSw; have yd1 := keepr d1 hSw; have yd2 := keepr d2 hSw; have yd3 := keepr d3 hSw; go_simp; try with_reducible rfl)
        simp only [Act.put, List.setIfInBounds_toArray, List.set]
        refine takeD (i := 15) (oi := _) (some 37) (v := ?_) rfl rfl (by kernel_rfl) (by kernel_rfl) (by kernel_rfl) (fun _ _ _ h => h) (Or.inl ⟨by rfl, ?_⟩) (by assumption) ?_
        rotate_left
        · (intro w hSw; (try dsimp only at hSw); have z0 := keepr g6 hSw; have ya0 := keepr a0 hSw; have ya1 := keepr a1 hSw; have ya2 := keepr a2 hSw; have ya3 := keepr a3 hSw; have yb0 := keepr b0 hSw; have yb1 := keepr b1 hSw; have yb2 := keepr b2 hSw; have yb3 := keepr b3 hSw; have yd0 := keepr d0 hSw; have yd1 := keepr d1 hSw; have yd2 := keepr d2 hSw; have yd3 := keepr d3 hSw; go_simp; try with_reducible rfl)
        simp only [Act.put, List.setIfInBounds_toArray, List.set]
        refine takeD (i := 16) (oi := _) (some 38) (v := ?_) rfl rfl (by kernel_rfl) (by kernel_rfl) (by kernel_rfl) (fun _ _ _ h => h) (Or.inl ⟨by rfl, ?_⟩) (by assumption) ?_
        rotate_left
        · (intro w hSw; (try dsimp only at hSw); have z0 := keepr g6 hSw; have ya0 := keepr a0 hSw; have ya1 := keepr a1 hSw; have ya2 := keepr a2 hSw; have ya3 := keepr a3 hSw; have yb0 := keepr b0 hSw; have yb1 := keepr b1 hSw; have yb2 := keepr b2 hSw; have yb3 := keepr b3 hSw; have yd0 := keepr d0 hSw; have yd1 := keepr d1 hSw; have yd2 := keepr d2 hSw; have yd3 := keepr d3 hSw; go_simp; try with_reducible rfl)
        simp only [Act.put, List.setIfInBounds_toArray, List.set]
        refine takeD (i := 17) (oi := _) (some 39) (v := ?_) rfl rfl (by kernel_rfl) (by kernel_rfl) (by kernel_rfl) (fun _ _ _ h => h) (Or.inl ⟨by rfl, ?_⟩) (by assumption) ?_
        rotate_left
        · (intro w hSw; (try dsimp only at hSw); have z0 := keepr g6 hSw; have ya0 := keepr a0 hSw; have ya1 := keepr a1 hSw; have ya2 := keepr a2 hSw; have ya3 := keepr a3 hSw; have yb0 := keepr b0 hSw; have yb1 := keepr b1 hSw; have yb2 := keepr b2 hSw; have yb3 := keepr b3 hSw; have yd0 := keepr d0 hSw; have yd1 := keepr d1 hSw; have yd2 := keepr d2 hSw; have yd3 := keepr d3 hSw; go_simp; try with_reducible rfl)
        simp only [Act.put, List.setIfInBounds_toArray, List.set]
        refine takeD (i := 18) (oi := _) (some 40) (v := ?_) rfl rfl (by kernel_rfl) (by kernel_rfl) (by kernel_rfl) (fun _ _ _ h => h) (Or.inl ⟨by rfl, ?_⟩) (by assumption) ?_
        rotate_left
        · (intro w hSw; (try dsimp only at hSw); have z0 := keepr g6 hSw; have ya0 := keepr a0 hSw; have ya1 := keepr a1 hSw; have ya2 := keepr a2 hSw; have ya3 := keepr a3 hSw; have yb0 := keepr b0 hSw; have yb1 := keepr b1 hSw; have yb2 := keepr b2 hSw; have yb3 := keepr b3 hSw; have yd0 := keepr d0 hSw; have yd1 := keepr d1 hSw; have yd2 := keepr d2 hSw; have yd3 := keepr d3 hSw; go_simp; try with_reducible rfl)
        simp only [Act.put, List.setIfInBounds_toArray, List.set]
        refine takeD (i := 19) (oi := _) (some 41) (v := ?_) rfl rfl (by kernel_rfl) (by kernel_rfl) (by kernel_rfl) (fun _ _ _ h => h) (Or.inl ⟨by rfl, ?_⟩) (by assumption) ?_
        rotate_left
        · (intro w hSw; (try dsimp only at hSw); have z0 := keepr g6 hSw; have ya0 := keepr a0 hSw; have ya1 := keepr a1 hSw; have ya2 := keepr a2 hSw; have ya3 := keepr a3 hSw; have yb0 := keepr b0 hSw; have yb1 := keepr b1 hSw; have yb2 := keepr b2 hSw; have yb3 := keepr b3 hSw; have yd0 := keepr d0 hSw; have yd1 := keepr d1 hSw; have yd2 := keepr d2 hSw; have yd3 := keepr d3 hSw; go_simp; try with_reducible rfl)
        simp only [Act.put, List.setIfInBounds_toArray, List.set]
        refine takeD (i := 20) (oi := _) (some 42) (v := ?_) rfl rfl (by kernel_rfl) (by kernel_rfl) (by kernel_rfl) (fun _ _ _ h => h) (Or.inl ⟨by rfl, ?_⟩) (by assumption) ?_
        rotate_left
        · (intro w hSw; (try dsimp only at hSw); have z0 := keepr g6 hSw; have ya0 := keepr a0 hSw; have ya1 := keepr a1 hSw; have ya2 := keepr a2 hSw; have ya3 := keepr a3 hSw; have yb0 := keepr b0 hSw; have yb1 := keepr b1 hSw; have yb2 := keepr b2 hSw; have yb3 := keepr b3 hSw; have yd0 := keepr d0 hSw; have yd1 := keepr d1 hSw; have yd2 := keepr d2 hSw; have yd3 := keepr d3 hSw; go_simp; try with_reducible rfl)
        simp only [Act.put, List.setIfInBounds_toArray, List.set]
        refine takeD (i := 21) (oi := _) (some 43) (v := ?_) rfl rfl (by kernel_rfl) (by kernel_rfl) (by kernel_rfl) (fun _ _ _ h => h) (Or.inl ⟨by rfl, ?_⟩) (by assumption) ?_
        rotate_left
        · (intro w hSw; (try dsimp only at hSw); have z0 := keepr g6 hSw; have ya0 := keepr a0 hSw; have ya1 := keepr a1 hSw; have ya2 := keepr a2 hSw; have ya3 := keepr a3 hSw; have yb0 := keepr b0 hSw; have yb1 := keepr b1 hSw; have yb2 := keepr b2 hSw; have yb3 := keepr b3 hSw; have yd0 := keepr d0 hSw; have yd1 := keepr d1 hSw; have yd2 := keepr d2 hSw; have yd3 := keepr d3 hSw; go_simp; try with_reducible rfl)
        simp only [Act.put, List.setIfInBounds_toArray, List.set]
        refine takeD (i := 22) (oi := _) (some 44) (v := ?_) rfl rfl (by kernel_rfl) (by kernel_rfl) (by kernel_rfl) (fun _ _ _ h => h) (Or.inl ⟨by rfl, ?_⟩) (by assumption) ?_
        rotate_left
        · (intro w hSw; (try dsimp only at hSw); have z0 := keepr g6 hSw; have ya0 := keepr a0 hSw; have ya1 := keepr a1 hSw; have ya2 := keepr a2 hSw; have ya3 := keepr a3 hSw; have yb0 := keepr b0 hSw; have yb1 := keepr b1 hSw; have yb2 := keepr b2 hSw; have yb3 := keepr b3 hSw; have yd0 := keepr d0 hSw; have yd1 := keepr d1 hSw; have yd2 := keepr d2 hSw; have yd3 := keepr d3 hSw; go_simp; try with_reducible rfl)
        simp only [Act.put, List.setIfInBounds_toArray, List.set]
        refine takeD (i := 23) (oi := _) (some 45) (v := ?_) rfl rfl (by kernel_rfl) (by kernel_rfl) (by kernel_rfl) (fun _ _ _ h => h) (Or.inl ⟨by rfl, ?_⟩) (by assumption) ?_
        rotate_left
        · (intro w hSw; (try dsimp only at hSw); have z0 := keepr g6 hSw; have ya0 := keepr a0 hSw; have ya1 := keepr a1 hSw; have ya2 := keepr a2 hSw; have ya3 := keepr a3 hSw; have yb0 := keepr b0 hSw; have yb1 := keepr b1 hSw; have yb2 := keepr b2 hSw; have yb3 := keepr b3 hSw; have yd0 := keepr d0 hSw; have yd1 := keepr d1 hSw; have yd2 := keepr d2 hSw; have yd3 := keepr d3 hSw; go_simp; try with_reducible rfl)
        simp only [Act.put, List.setIfInBounds_toArray, List.set]
        refine takeD (i := 24) (oi := _) (some 46) (v := ?_) rfl rfl (by kernel_rfl) (by kernel_rfl) (by kernel_rfl) (fun _ _ _ h => h) (Or.inl ⟨by rfl, ?_⟩) (by assumption) ?_
        rotate_left
        · (intro w hSw; (try dsimp only at hSw); have z0 := keepr g6 hSw; have ya0 := keepr a0 hSw; have ya1 := keepr a1 hSw; have ya2 := keepr a2 hSw; have ya3 := keepr a3 hSw; have yb0 := keepr b0 hSw; have yb1 := keepr b1 hSw; have yb2 := keepr b2 hSw; have yb3 := keepr b3 hSw; have yd0 := keepr d0 hSw; have yd1 := keepr d1 hSw; have yd2 := keepr d2 hSw; have yd3 := keepr d3 hSw; go_simp; try with_reducible rfl)
        simp only [Act.put, List.setIfInBounds_toArray, List.set]
        refine takeD (i := 25) (oi := _) (some 47) (v := ?_) rfl rfl (by kernel_rfl) (by kernel_rfl) (by kernel_rfl) (fun _ _ _ h => h) (Or.inl ⟨by rfl, ?_⟩) (by assumption) ?_
        rotate_left
        · (intro w hSw; (try dsimp only at hSw); have z0 := keepr g6 hSw; have ya0 := keepr a0 hSw; have ya1 := keepr a1 hSw; have ya2 := keepr a2 hSw; have ya3 := keepr a3 hSw; have yb0 := keepr b0 hSw; have yb1 := keepr b1 hSw; have yb2 := keepr b2 hSw; have yb3 := keepr b3 hSw; have yd0 := keepr d0 hSw; have yd1 := keepr d1 hSw; have yd2 := keepr d2 hSw; have yd3 := keepr d3 hSw; go_simp; try with_reducible rfl)
        simp only [Act.put, List.setIfInBounds_toArray, List.set]
        refine wpAnyH_done (by kernel_rfl) ?_ _
        have A9 := Lib.hid (A3.out.below hHeld)
        clear hHeld
        go_wp2_with fail
        go_ret
        exact ⟨by rw [HMM.out]; first | done | rfl, A9.out.bl⟩
  | true =>
    rw [hcl] at HCB
    have HMM := Lib.hid (show Hp.chkM h p = if Hp.crwB h p = true then 5 else 0 by rw [HM.out, if_neg (by rw [hz]; decide), if_neg (by rw [hk]; decide), if_neg (by rw [hn, hf, hcl]; decide)])
    have HCW := Lib.hid (crw_iff HT.out HPO.out)
    clear HM hz hk hnf hn hf hd hcl
    go_enter Try.func12, Try.ntmps12
    go_upto_region 1 with fail
    rw [← HW2]
    clear HW2
    go_upto_region 8 with (first | (refine wpList_load_mid rfl 26 (.tmp 2) rfl W.heap.size 0 rfl (hvA h sh mh).toList _ A0.out.bh.range Try.underlying26 rfl info7 ?_) | (go_at_call 35; (with_reducible refine (KH.out _ A0.out).mono ?_); rintro e w1 ⟨rfl, hb⟩; have A1 := Lib.hid (A0.out.below hb); clear hb) | (refine wpList_load_mid rfl 35 (.tmp 3) rfl (W.heap.size + 1) 0 rfl (pvA p s m s2 m2).toList _ A1.out.bp.range Try.underlying35 rfl info19 ?_) | (go_at_call 36; (with_reducible refine (KK.out _).mono ?_); rintro e w2 ⟨rfl, hb⟩; have A2 := Lib.hid (A1.out.below hb); clear hb) | (refine wpList_load_mid rfl 35 (.tmp 3) rfl (W.heap.size + 1) 0 rfl (pvA p s m s2 m2).toList _ A2.out.bp.range Try.underlying35 rfl info19 ?_) | (go_at_call 37; (with_reducible refine (KN.out _ A2.out).mono ?_); rintro e w3 ⟨rfl, hb⟩; have A3 := Lib.hid (A2.out.below hb); clear hb) | fail)
    clear A0 A1 A2 KH KK KN
    have TV := Lib.hid (fun (t : Nat) (ht : t < (Hp.tl h).length) => tile_v HT.out ht)
    have HLL := Lib.hid (show (Hp.tl h).length ≤ 1024 by rw [HT.out.len]; exact HT.out.few)
    have KP := Lib.hid (fun (V : Pl.R) (hv : Pl.validB V.x0 V.y0 V.x1 V.y1 = true) (w : World) (a : CkS W h p sh s s2 mh m m2 w) => rpk_c h p V HPO.out hv sh s s2 mh m m2 w a.hC a.hP)
    have KB := Lib.hid (fun (V : Pl.R) (hv : Pl.validB V.x0 V.y0 V.x1 V.y1 = true) (w : World) (a : CkS W h p sh s s2 mh m m2 w) => rbk_c h p V HPO.out hv sh s s2 mh m m2 w a.hC a.hP)
    generalize Hp.tl h = L at *
    have p2 := A3.out.bp.get 2 (v := .int .i64 p.col) rfl
    by_cases h0 : p.col = 0
    case pos =>
      have t0 : (p.col == 0) = true := by simp [h0]
      have t00 : (p.col != 0) = false := by simp [h0]
      clear HCB
      have A4 := A3
      obtain ⟨g0, g1, g2, g3, g4, g5, g6⟩ := A4.out.bh.hd
      go_upto_region 12 with (first | (go_at_call 38; (with_reducible refine (HKL.out _).mono ?_); rintro e w5 ⟨aL, cL, rfl, hHL, hb⟩; have A5 := Lib.hid (A4.out.below hb); have HL := Lib.hid hHL; clear hb hHL) | fail)
      clear A4 HKL g0 g1 g2 g3 g4 g5 g6
      go_upto_region 13 with fail
      go_loopw [7] (fun v wr => ∃ k : Nat, k ≤ L.length ∧ v = .int .i64 k ∧ Hid (CkS W h p sh s s2 mh m m2 wr) ∧ Hid (Holds wr aL L) ∧ Hid (∀ t (_ : t < L.length), t < k → ¬ (65536 < Hp.pkM h p L[t] * p.lay ∨ 65536 < bkN h p L[t] h.cs.length))) (fun v _ => L.length - (intOf v).toNat)
      case atStart => exact ⟨0, Nat.zero_le _, rfl, A5, HL, Lib.hid (fun _ _ q => absurd q (Nat.not_lt_zero _))⟩
      case round =>
        obtain ⟨k, hk, rfl, HA, HL1, HNB⟩ := hrel
        clear A5 HL
        by_cases hlt : k < L.length
        case pos =>
          rcases HL1.out with z | ⟨b, off, rfl, hr⟩
          · rw [z] at hlt; simp at hlt
          obtain ⟨c0, c1, c2, c3⟩ := hr k hlt
          have hki : (k : Int) < (L.length : Int) := by omega
          have w2' : IntKind.i64.wrap ((k : Int) + 1) = (k : Int) + 1 := IntWalk.i64_in _ (by have := HLL.out; omega)
          have KPK := Lib.hid (KP.out _ (TV.out k hlt))
          have KBK := Lib.hid (KB.out _ (TV.out k hlt))
          have HYES := Lib.hid (show (65536 < Hp.pkM h p L[k] * p.lay ∨ 65536 < bkN h p L[k] h.cs.length) → Hp.crwB h p = true from fun q => HCW.out.2 ⟨k, hlt, q⟩)
          have HNO := Lib.hid (show ¬ (65536 < Hp.pkM h p L[k] * p.lay ∨ 65536 < bkN h p L[k] h.cs.length) → ∀ t (_ : t < L.length), t < k + 1 → ¬ (65536 < Hp.pkM h p L[t] * p.lay ∨ 65536 < bkN h p L[t] h.cs.length) from fun q t ht hs => by
            by_cases e : t = k
            · subst e; exact q
            · exact HNB.out t ht (by omega))
          generalize Hp.pkM h p L[k] * p.lay = PK at *
          generalize bkN h p L[k] h.cs.length = BK at *
          generalize L[k] = V at *
          clear hr
          go_upto_region 15 with fail
          by_cases b1 : 65536 < PK
          case pos =>
            have HY := Lib.hid (HYES.out (.inl b1))
            refine wp_region_held_drew (S := (fun w => Below wr.heap.size wr w)) (by kernel_rfl) (by (try dsimp only); exact (Below.refl _ _).drew) (fun hHeld => ?_)
            refine takeD (i := 0) (oi := _) (some 61) (v := .agg (hvA h sh mh)) rfl rfl (by kernel_rfl) (by kernel_rfl) (by kernel_rfl) (fun _ _ _ h => h) (yieldsIf_load_mid (by rfl) 26 (.tmp 2) rfl W.heap.size 0 rfl (hvA h sh mh).toList _ (fun w hw => (HA.out.bh.below hw).range) Try.underlying26 rfl info7) (by assumption) ?_
            simp only [Act.put, List.setIfInBounds_toArray, List.set]
            refine takeD (i := 1) (oi := _) (some 62) (v := .agg (pvA p s m s2 m2)) rfl rfl (by kernel_rfl) (by kernel_rfl) (by kernel_rfl) (fun _ _ _ h => h) (yieldsIf_load_mid (by rfl) 35 (.tmp 3) rfl (W.heap.size + 1) 0 rfl (pvA p s m s2 m2).toList _ (fun w hw => (HA.out.bp.below hw).range) Try.underlying35 rfl info19) (by assumption) ?_
            simp only [Act.put, List.setIfInBounds_toArray, List.set]
            refine takeD (i := 2) (oi := _) (some 63) (v := ?_) rfl rfl (by kernel_rfl) (by kernel_rfl) (by kernel_rfl) (fun _ _ _ h => h) (Or.inl ⟨by rfl, ?_⟩) (by assumption) ?_
            rotate_left
            · (intro w hSw; (try dsimp only at hSw); have z0 := keepr c0 hSw; have z1 := keepr c1 hSw; have z2 := keepr c2 hSw; have z3 := keepr c3 hSw; go_simp; try with_reducible rfl)
            simp only [Act.put, List.setIfInBounds_toArray, List.set]
            refine takeD (i := 3) (oi := _) (some 64) (v := ?_) rfl rfl (by kernel_rfl) (by kernel_rfl) (by kernel_rfl) (fun _ _ _ h => h) (Or.inl ⟨by rfl, ?_⟩) (by assumption) ?_
            rotate_left
            · (intro w hSw; (try dsimp only at hSw); have z0 := keepr c0 hSw; have z1 := keepr c1 hSw; have z2 := keepr c2 hSw; have z3 := keepr c3 hSw; go_simp; try with_reducible rfl)
            simp only [Act.put, List.setIfInBounds_toArray, List.set]
            refine takeD (i := 4) (oi := _) (some 65) (v := ?_) rfl rfl (by kernel_rfl) (by kernel_rfl) (by kernel_rfl) (fun _ _ _ h => h) (Or.inl ⟨by rfl, ?_⟩) (by assumption) ?_
            rotate_left
            · (intro w hSw; (try dsimp only at hSw); have z0 := keepr c0 hSw; have z1 := keepr c1 hSw; have z2 := keepr c2 hSw; have z3 := keepr c3 hSw; go_simp; try with_reducible rfl)
            simp only [Act.put, List.setIfInBounds_toArray, List.set]
            refine takeD (i := 5) (oi := _) (some 66) (v := ?_) rfl rfl (by kernel_rfl) (by kernel_rfl) (by kernel_rfl) (fun _ _ _ h => h) (Or.inl ⟨by rfl, ?_⟩) (by assumption) ?_
            rotate_left
            · (intro w hSw; (try dsimp only at hSw); have z0 := keepr c0 hSw; have z1 := keepr c1 hSw; have z2 := keepr c2 hSw; have z3 := keepr c3 hSw; go_simp; try with_reducible rfl)
            simp only [Act.put, List.setIfInBounds_toArray, List.set]
            refine wpAnyH_ready (rs := [6]) (by kernel_rfl) (by simp) ?_
            refine AllReadyH.cons (o := _) rfl (fun K hK => ?_) AllReadyH.nil
            (go_simp; go_at_call 39; (with_reducible refine (KPK.out _ (HA.out.below hHeld)).mono ?_); rintro e wn ⟨rfl, hbn⟩)
            refine hK.out _ _ (by (try dsimp only); first | exact hHeld | exact hHeld.trans (hbn.mono hHeld.size)) (fun hHeld => ?_)
            clear hK K
            try simp only [Act.put, List.setIfInBounds_toArray, List.set]
            refine takeD (i := 7) (oi := _) (some 68) (v := ?_) rfl rfl (by kernel_rfl) (by kernel_rfl) (by kernel_rfl) (fun _ _ _ h => h) (Or.inl ⟨by rfl, ?_⟩) (by assumption) ?_
            rotate_left
            · (intro w hSw; (try dsimp only at hSw); have z0 := keepr c0 hSw; have z1 := keepr c1 hSw; have z2 := keepr c2 hSw; have z3 := keepr c3 hSw; go_simp; try with_reducible rfl)
            simp only [Act.put, List.setIfInBounds_toArray, List.set]
            refine takeD (i := 8) (oi := _) (some 69) (v := ?_) rfl rfl (by kernel_rfl) (by kernel_rfl) (by kernel_rfl) (fun _ _ _ h => h) (Or.inl ⟨by rfl, ?_⟩) (by assumption) ?_
            rotate_left
            · (intro w hSw; (try dsimp only at hSw); have z0 := keepr c0 hSw; have z1 := keepr c1 hSw; have z2 := keepr c2 hSw; have z3 := keepr c3 hSw; go_simp; try with_reducible rfl)
            simp only [Act.put, List.setIfInBounds_toArray, List.set]
            refine takeD (i := 9) (oi := _) (some 70) (v := undef) rfl rfl (by kernel_rfl) (by kernel_rfl) (by kernel_rfl) (fun _ _ _ h => h) (Or.inr ⟨by rfl, rfl⟩) (by assumption) ?_
            simp only [Act.put, List.setIfInBounds_toArray, List.set]
            refine takeD (i := 10) (oi := _) (some 71) (v := undef) rfl rfl (by kernel_rfl) (by kernel_rfl) (by kernel_rfl) (fun _ _ _ h => h) (Or.inr ⟨by rfl, rfl⟩) (by assumption) ?_
            simp only [Act.put, List.setIfInBounds_toArray, List.set]
            refine takeD (i := 11) (oi := _) (some 72) (v := undef) rfl rfl (by kernel_rfl) (by kernel_rfl) (by kernel_rfl) (fun _ _ _ h => h) (Or.inr ⟨by rfl, rfl⟩) (by assumption) ?_
            simp only [Act.put, List.setIfInBounds_toArray, List.set]
            refine takeD (i := 12) (oi := _) (some 73) (v := undef) rfl rfl (by kernel_rfl) (by kernel_rfl) (by kernel_rfl) (fun _ _ _ h => h) (Or.inr ⟨by rfl, rfl⟩) (by assumption) ?_
            simp only [Act.put, List.setIfInBounds_toArray, List.set]
            refine takeD (i := 13) (oi := _) (some 74) (v := undef) rfl rfl (by kernel_rfl) (by kernel_rfl) (by kernel_rfl) (fun _ _ _ h => h) (Or.inr ⟨by rfl, rfl⟩) (by assumption) ?_
            simp only [Act.put, List.setIfInBounds_toArray, List.set]
            refine takeD (i := 14) (oi := _) (some 75) (v := undef) rfl rfl (by kernel_rfl) (by kernel_rfl) (by kernel_rfl) (fun _ _ _ h => h) (Or.inr ⟨by rfl, rfl⟩) (by assumption) ?_
            simp only [Act.put, List.setIfInBounds_toArray, List.set]
            refine takeD (i := 15) (oi := _) (some 76) (v := undef) rfl rfl (by kernel_rfl) (by kernel_rfl) (by kernel_rfl) (fun _ _ _ h => h) (Or.inr ⟨by rfl, rfl⟩) (by assumption) ?_
            simp only [Act.put, List.setIfInBounds_toArray, List.set]
            refine takeD (i := 16) (oi := _) (some 77) (v := undef) rfl rfl (by kernel_rfl) (by kernel_rfl) (by kernel_rfl) (fun _ _ _ h => h) (Or.inr ⟨by rfl, rfl⟩) (by assumption) ?_
            simp only [Act.put, List.setIfInBounds_toArray, List.set]
            refine takeD (i := 17) (oi := _) (some 78) (v := ?_) rfl rfl (by kernel_rfl) (by kernel_rfl) (by kernel_rfl) (fun _ _ _ h => h) (Or.inl ⟨by rfl, ?_⟩) (by assumption) ?_
            rotate_left
            · (intro w hSw; (try dsimp only at hSw); have z0 := keepr c0 hSw; have z1 := keepr c1 hSw; have z2 := keepr c2 hSw; have z3 := keepr c3 hSw; go_simp; try with_reducible rfl)
            simp only [Act.put, List.setIfInBounds_toArray, List.set]
            refine wpAnyH_done (by kernel_rfl) ?_ _

            have A15 := Lib.hid (HA.out.below hHeld)
            clear hHeld
            go_wp2_with fail
            go_ret
            exact ⟨by rw [HMM.out, if_pos HY.out]; first | done | rfl, A15.out.bl⟩
          case neg =>
            by_cases b2 : 65536 < BK
            case pos =>
              have HY := Lib.hid (HYES.out (.inr b2))
              refine wp_region_held_drew (S := (fun w => Below wr.heap.size wr w)) (by kernel_rfl) (by (try dsimp only); exact (Below.refl _ _).drew) (fun hHeld => ?_)
              refine takeD (i := 0) (oi := _) (some 61) (v := .agg (hvA h sh mh)) rfl rfl (by kernel_rfl) (by kernel_rfl) (by kernel_rfl) (fun _ _ _ h => h) (yieldsIf_load_mid (by rfl) 26 (.tmp 2) rfl W.heap.size 0 rfl (hvA h sh mh).toList _ (fun w hw => (HA.out.bh.below hw).range) Try.underlying26 rfl info7) (by assumption) ?_
              simp only [Act.put, List.setIfInBounds_toArray, List.set]
              refine takeD (i := 1) (oi := _) (some 62) (v := .agg (pvA p s m s2 m2)) rfl rfl (by kernel_rfl) (by kernel_rfl) (by kernel_rfl) (fun _ _ _ h => h) (yieldsIf_load_mid (by rfl) 35 (.tmp 3) rfl (W.heap.size + 1) 0 rfl (pvA p s m s2 m2).toList _ (fun w hw => (HA.out.bp.below hw).range) Try.underlying35 rfl info19) (by assumption) ?_
              simp only [Act.put, List.setIfInBounds_toArray, List.set]
              refine takeD (i := 2) (oi := _) (some 63) (v := ?_) rfl rfl (by kernel_rfl) (by kernel_rfl) (by kernel_rfl) (fun _ _ _ h => h) (Or.inl ⟨by rfl, ?_⟩) (by assumption) ?_
              rotate_left
              · (intro w hSw; (try dsimp only at hSw); have z0 := keepr c0 hSw; have z1 := keepr c1 hSw; have z2 := keepr c2 hSw; have z3 := keepr c3 hSw; go_simp; try with_reducible rfl)
              simp only [Act.put, List.setIfInBounds_toArray, List.set]
              refine takeD (i := 3) (oi := _) (some 64) (v := ?_) rfl rfl (by kernel_rfl) (by kernel_rfl) (by kernel_rfl) (fun _ _ _ h => h) (Or.inl ⟨by rfl, ?_⟩) (by assumption) ?_
              rotate_left
              · (intro w hSw; (try dsimp only at hSw); have z0 := keepr c0 hSw; have z1 := keepr c1 hSw; have z2 := keepr c2 hSw; have z3 := keepr c3 hSw; go_simp; try with_reducible rfl)
              simp only [Act.put, List.setIfInBounds_toArray, List.set]
              refine takeD (i := 4) (oi := _) (some 65) (v := ?_) rfl rfl (by kernel_rfl) (by kernel_rfl) (by kernel_rfl) (fun _ _ _ h => h) (Or.inl ⟨by rfl, ?_⟩) (by assumption) ?_
              rotate_left
              · (intro w hSw; (try dsimp only at hSw); have z0 := keepr c0 hSw; have z1 := keepr c1 hSw; have z2 := keepr c2 hSw; have z3 := keepr c3 hSw; go_simp; try with_reducible rfl)
              simp only [Act.put, List.setIfInBounds_toArray, List.set]
              refine takeD (i := 5) (oi := _) (some 66) (v := ?_) rfl rfl (by kernel_rfl) (by kernel_rfl) (by kernel_rfl) (fun _ _ _ h => h) (Or.inl ⟨by rfl, ?_⟩) (by assumption) ?_
              rotate_left
              · (intro w hSw; (try dsimp only at hSw); have z0 := keepr c0 hSw; have z1 := keepr c1 hSw; have z2 := keepr c2 hSw; have z3 := keepr c3 hSw; go_simp; try with_reducible rfl)
              simp only [Act.put, List.setIfInBounds_toArray, List.set]
              refine wpAnyH_ready (rs := [6]) (by kernel_rfl) (by simp) ?_
              refine AllReadyH.cons (o := _) rfl (fun K hK => ?_) AllReadyH.nil
              (go_simp; go_at_call 39; (with_reducible refine (KPK.out _ (HA.out.below hHeld)).mono ?_); rintro e wn ⟨rfl, hbn⟩)
              refine hK.out _ _ (by (try dsimp only); first | exact hHeld | exact hHeld.trans (hbn.mono hHeld.size)) (fun hHeld => ?_)
              clear hK K
              try simp only [Act.put, List.setIfInBounds_toArray, List.set]
              refine takeD (i := 7) (oi := _) (some 68) (v := ?_) rfl rfl (by kernel_rfl) (by kernel_rfl) (by kernel_rfl) (fun _ _ _ h => h) (Or.inl ⟨by rfl, ?_⟩) (by assumption) ?_
              rotate_left
              · (intro w hSw; (try dsimp only at hSw); have z0 := keepr c0 hSw; have z1 := keepr c1 hSw; have z2 := keepr c2 hSw; have z3 := keepr c3 hSw; go_simp; try with_reducible rfl)
              simp only [Act.put, List.setIfInBounds_toArray, List.set]
              refine takeD (i := 8) (oi := _) (some 69) (v := ?_) rfl rfl (by kernel_rfl) (by kernel_rfl) (by kernel_rfl) (fun _ _ _ h => h) (Or.inl ⟨by rfl, ?_⟩) (by assumption) ?_
              rotate_left
              · (intro w hSw; (try dsimp only at hSw); have z0 := keepr c0 hSw; have z1 := keepr c1 hSw; have z2 := keepr c2 hSw; have z3 := keepr c3 hSw; go_simp; try with_reducible rfl)
              simp only [Act.put, List.setIfInBounds_toArray, List.set]
              refine takeD (i := 9) (oi := _) (some 70) (v := .agg (hvA h sh mh)) rfl rfl (by kernel_rfl) (by kernel_rfl) (by kernel_rfl) (fun _ _ _ h => h) (yieldsIf_load_mid (by rfl) 26 (.tmp 2) rfl W.heap.size 0 rfl (hvA h sh mh).toList _ (fun w hw => (HA.out.bh.below hw).range) Try.underlying26 rfl info7) (by assumption) ?_
              simp only [Act.put, List.setIfInBounds_toArray, List.set]
              refine takeD (i := 10) (oi := _) (some 71) (v := .agg (pvA p s m s2 m2)) rfl rfl (by kernel_rfl) (by kernel_rfl) (by kernel_rfl) (fun _ _ _ h => h) (yieldsIf_load_mid (by rfl) 35 (.tmp 3) rfl (W.heap.size + 1) 0 rfl (pvA p s m s2 m2).toList _ (fun w hw => (HA.out.bp.below hw).range) Try.underlying35 rfl info19) (by assumption) ?_
              simp only [Act.put, List.setIfInBounds_toArray, List.set]
              refine takeD (i := 11) (oi := _) (some 72) (v := ?_) rfl rfl (by kernel_rfl) (by kernel_rfl) (by kernel_rfl) (fun _ _ _ h => h) (Or.inl ⟨by rfl, ?_⟩) (by assumption) ?_
              rotate_left
              · (intro w hSw; (try dsimp only at hSw); have z0 := keepr c0 hSw; have z1 := keepr c1 hSw; have z2 := keepr c2 hSw; have z3 := keepr c3 hSw; go_simp; try with_reducible rfl)
              simp only [Act.put, List.setIfInBounds_toArray, List.set]
              refine takeD (i := 12) (oi := _) (some 73) (v := ?_) rfl rfl (by kernel_rfl) (by kernel_rfl) (by kernel_rfl) (fun _ _ _ h => h) (Or.inl ⟨by rfl, ?_⟩) (by assumption) ?_
              rotate_left
              · (intro w hSw; (try dsimp only at hSw); have z0 := keepr c0 hSw; have z1 := keepr c1 hSw; have z2 := keepr c2 hSw; have z3 := keepr c3 hSw; go_simp; try with_reducible rfl)
              simp only [Act.put, List.setIfInBounds_toArray, List.set]
              refine takeD (i := 13) (oi := _) (some 74) (v := ?_) rfl rfl (by kernel_rfl) (by kernel_rfl) (by kernel_rfl) (fun _ _ _ h => h) (Or.inl ⟨by rfl, ?_⟩) (by assumption) ?_
              rotate_left
              · (intro w hSw; (try dsimp only at hSw); have z0 := keepr c0 hSw; have z1 := keepr c1 hSw; have z2 := keepr c2 hSw; have z3 := keepr c3 hSw; go_simp; try with_reducible rfl)
              simp only [Act.put, List.setIfInBounds_toArray, List.set]
              refine takeD (i := 14) (oi := _) (some 75) (v := ?_) rfl rfl (by kernel_rfl) (by kernel_rfl) (by kernel_rfl) (fun _ _ _ h => h) (Or.inl ⟨by rfl, ?_⟩) (by assumption) ?_
              rotate_left
              · (intro w hSw; (try dsimp only at hSw); have z0 := keepr c0 hSw; have z1 := keepr c1 hSw; have z2 := keepr c2 hSw; have z3 := keepr c3 hSw; go_simp; try with_reducible rfl)
              simp only [Act.put, List.setIfInBounds_toArray, List.set]
              refine wpAnyH_ready (rs := [15]) (by kernel_rfl) (by simp) ?_
              refine AllReadyH.cons (o := _) rfl (fun K hK => ?_) AllReadyH.nil
              (go_simp; go_at_call 40; (with_reducible refine (KBK.out _ (HA.out.below hHeld)).mono ?_); rintro e wn ⟨rfl, hbn⟩)
              refine hK.out _ _ (by (try dsimp only); first | exact hHeld | exact hHeld.trans (hbn.mono hHeld.size)) (fun hHeld => ?_)
              clear hK K
              try simp only [Act.put, List.setIfInBounds_toArray, List.set]
              refine takeD (i := 16) (oi := _) (some 77) (v := ?_) rfl rfl (by kernel_rfl) (by kernel_rfl) (by kernel_rfl) (fun _ _ _ h => h) (Or.inl ⟨by rfl, ?_⟩) (by assumption) ?_
              rotate_left
              · (intro w hSw; (try dsimp only at hSw); have z0 := keepr c0 hSw; have z1 := keepr c1 hSw; have z2 := keepr c2 hSw; have z3 := keepr c3 hSw; go_simp; try with_reducible rfl)
              simp only [Act.put, List.setIfInBounds_toArray, List.set]
              refine takeD (i := 17) (oi := _) (some 78) (v := ?_) rfl rfl (by kernel_rfl) (by kernel_rfl) (by kernel_rfl) (fun _ _ _ h => h) (Or.inl ⟨by rfl, ?_⟩) (by assumption) ?_
              rotate_left
              · (intro w hSw; (try dsimp only at hSw); have z0 := keepr c0 hSw; have z1 := keepr c1 hSw; have z2 := keepr c2 hSw; have z3 := keepr c3 hSw; go_simp; try with_reducible rfl)
              simp only [Act.put, List.setIfInBounds_toArray, List.set]
              refine wpAnyH_done (by kernel_rfl) ?_ _

              have A15 := Lib.hid (HA.out.below hHeld)
              clear hHeld
              go_wp2_with fail
              go_ret
              exact ⟨by rw [HMM.out, if_pos HY.out]; first | done | rfl, A15.out.bl⟩
            case neg =>
              have HN2 := Lib.hid (HNO.out (fun q => q.elim b1 b2))
              refine wp_region_held_drew (S := (fun w => Below wr.heap.size wr w)) (by kernel_rfl) (by (try dsimp only); exact (Below.refl _ _).drew) (fun hHeld => ?_)
              refine takeD (i := 0) (oi := _) (some 61) (v := .agg (hvA h sh mh)) rfl rfl (by kernel_rfl) (by kernel_rfl) (by kernel_rfl) (fun _ _ _ h => h) (yieldsIf_load_mid (by rfl) 26 (.tmp 2) rfl W.heap.size 0 rfl (hvA h sh mh).toList _ (fun w hw => (HA.out.bh.below hw).range) Try.underlying26 rfl info7) (by assumption) ?_
              simp only [Act.put, List.setIfInBounds_toArray, List.set]
              refine takeD (i := 1) (oi := _) (some 62) (v := .agg (pvA p s m s2 m2)) rfl rfl (by kernel_rfl) (by kernel_rfl) (by kernel_rfl) (fun _ _ _ h => h) (yieldsIf_load_mid (by rfl) 35 (.tmp 3) rfl (W.heap.size + 1) 0 rfl (pvA p s m s2 m2).toList _ (fun w hw => (HA.out.bp.below hw).range) Try.underlying35 rfl info19) (by assumption) ?_
              simp only [Act.put, List.setIfInBounds_toArray, List.set]
              refine takeD (i := 2) (oi := _) (some 63) (v := ?_) rfl rfl (by kernel_rfl) (by kernel_rfl) (by kernel_rfl) (fun _ _ _ h => h) (Or.inl ⟨by rfl, ?_⟩) (by assumption) ?_
              rotate_left
              · (intro w hSw; (try dsimp only at hSw); have z0 := keepr c0 hSw; have z1 := keepr c1 hSw; have z2 := keepr c2 hSw; have z3 := keepr c3 hSw; go_simp; try with_reducible rfl)
              simp only [Act.put, List.setIfInBounds_toArray, List.set]
              refine takeD (i := 3) (oi := _) (some 64) (v := ?_) rfl rfl (by kernel_rfl) (by kernel_rfl) (by kernel_rfl) (fun _ _ _ h => h) (Or.inl ⟨by rfl, ?_⟩) (by assumption) ?_
              rotate_left
              · (intro w hSw; (try dsimp only at hSw); have z0 := keepr c0 hSw; have z1 := keepr c1 hSw; have z2 := keepr c2 hSw; have z3 := keepr c3 hSw; go_simp; try with_reducible rfl)
              simp only [Act.put, List.setIfInBounds_toArray, List.set]
              refine takeD (i := 4) (oi := _) (some 65) (v := ?_) rfl rfl (by kernel_rfl) (by kernel_rfl) (by kernel_rfl) (fun _ _ _ h => h) (Or.inl ⟨by rfl, ?_⟩) (by assumption) ?_
              rotate_left
              · (intro w hSw; (try dsimp only at hSw); have z0 := keepr c0 hSw; have z1 := keepr c1 hSw; have z2 := keepr c2 hSw; have z3 := keepr c3 hSw; go_simp; try with_reducible rfl)
              simp only [Act.put, List.setIfInBounds_toArray, List.set]
              refine takeD (i := 5) (oi := _) (some 66) (v := ?_) rfl rfl (by kernel_rfl) (by kernel_rfl) (by kernel_rfl) (fun _ _ _ h => h) (Or.inl ⟨by rfl, ?_⟩) (by assumption) ?_
              rotate_left
              · (intro w hSw; (try dsimp only at hSw); have z0 := keepr c0 hSw; have z1 := keepr c1 hSw; have z2 := keepr c2 hSw; have z3 := keepr c3 hSw; go_simp; try with_reducible rfl)
              simp only [Act.put, List.setIfInBounds_toArray, List.set]
              refine wpAnyH_ready (rs := [6]) (by kernel_rfl) (by simp) ?_
              refine AllReadyH.cons (o := _) rfl (fun K hK => ?_) AllReadyH.nil
              (go_simp; go_at_call 39; (with_reducible refine (KPK.out _ (HA.out.below hHeld)).mono ?_); rintro e wn ⟨rfl, hbn⟩)
              refine hK.out _ _ (by (try dsimp only); first | exact hHeld | exact hHeld.trans (hbn.mono hHeld.size)) (fun hHeld => ?_)
              clear hK K
              try simp only [Act.put, List.setIfInBounds_toArray, List.set]
              refine takeD (i := 7) (oi := _) (some 68) (v := ?_) rfl rfl (by kernel_rfl) (by kernel_rfl) (by kernel_rfl) (fun _ _ _ h => h) (Or.inl ⟨by rfl, ?_⟩) (by assumption) ?_
              rotate_left
              · (intro w hSw; (try dsimp only at hSw); have z0 := keepr c0 hSw; have z1 := keepr c1 hSw; have z2 := keepr c2 hSw; have z3 := keepr c3 hSw; go_simp; try with_reducible rfl)
              simp only [Act.put, List.setIfInBounds_toArray, List.set]
              refine takeD (i := 8) (oi := _) (some 69) (v := ?_) rfl rfl (by kernel_rfl) (by kernel_rfl) (by kernel_rfl) (fun _ _ _ h => h) (Or.inl ⟨by rfl, ?_⟩) (by assumption) ?_
              rotate_left
              · (intro w hSw; (try dsimp only at hSw); have z0 := keepr c0 hSw; have z1 := keepr c1 hSw; have z2 := keepr c2 hSw; have z3 := keepr c3 hSw; go_simp; try with_reducible rfl)
              simp only [Act.put, List.setIfInBounds_toArray, List.set]
              refine takeD (i := 9) (oi := _) (some 70) (v := .agg (hvA h sh mh)) rfl rfl (by kernel_rfl) (by kernel_rfl) (by kernel_rfl) (fun _ _ _ h => h) (yieldsIf_load_mid (by rfl) 26 (.tmp 2) rfl W.heap.size 0 rfl (hvA h sh mh).toList _ (fun w hw => (HA.out.bh.below hw).range) Try.underlying26 rfl info7) (by assumption) ?_
              simp only [Act.put, List.setIfInBounds_toArray, List.set]
              refine takeD (i := 10) (oi := _) (some 71) (v := .agg (pvA p s m s2 m2)) rfl rfl (by kernel_rfl) (by kernel_rfl) (by kernel_rfl) (fun _ _ _ h => h) (yieldsIf_load_mid (by rfl) 35 (.tmp 3) rfl (W.heap.size + 1) 0 rfl (pvA p s m s2 m2).toList _ (fun w hw => (HA.out.bp.below hw).range) Try.underlying35 rfl info19) (by assumption) ?_
              simp only [Act.put, List.setIfInBounds_toArray, List.set]
              refine takeD (i := 11) (oi := _) (some 72) (v := ?_) rfl rfl (by kernel_rfl) (by kernel_rfl) (by kernel_rfl) (fun _ _ _ h => h) (Or.inl ⟨by rfl, ?_⟩) (by assumption) ?_
              rotate_left
              · (intro w hSw; (try dsimp only at hSw); have z0 := keepr c0 hSw; have z1 := keepr c1 hSw; have z2 := keepr c2 hSw; have z3 := keepr c3 hSw; go_simp; try with_reducible rfl)
              simp only [Act.put, List.setIfInBounds_toArray, List.set]
              refine takeD (i := 12) (oi := _) (some 73) (v := ?_) rfl rfl (by kernel_rfl) (by kernel_rfl) (by kernel_rfl) (fun _ _ _ h => h) (Or.inl ⟨by rfl, ?_⟩) (by assumption) ?_
              rotate_left
              · (intro w hSw; (try dsimp only at hSw); have z0 := keepr c0 hSw; have z1 := keepr c1 hSw; have z2 := keepr c2 hSw; have z3 := keepr c3 hSw; go_simp; try with_reducible rfl)
              simp only [Act.put, List.setIfInBounds_toArray, List.set]
              refine takeD (i := 13) (oi := _) (some 74) (v := ?_) rfl rfl (by kernel_rfl) (by kernel_rfl) (by kernel_rfl) (fun _ _ _ h => h) (Or.inl ⟨by rfl, ?_⟩) (by assumption) ?_
              rotate_left
              · (intro w hSw; (try dsimp only at hSw); have z0 := keepr c0 hSw; have z1 := keepr c1 hSw; have z2 := keepr c2 hSw; have z3 := keepr c3 hSw; go_simp; try with_reducible rfl)
              simp only [Act.put, List.setIfInBounds_toArray, List.set]
              refine takeD (i := 14) (oi := _) (some 75) (v := ?_) rfl rfl (by kernel_rfl) (by kernel_rfl) (by kernel_rfl) (fun _ _ _ h => h) (Or.inl ⟨by rfl, ?_⟩) (by assumption) ?_
              rotate_left
              · (intro w hSw; (try dsimp only at hSw); have z0 := keepr c0 hSw; have z1 := keepr c1 hSw; have z2 := keepr c2 hSw; have z3 := keepr c3 hSw; go_simp; try with_reducible rfl)
              simp only [Act.put, List.setIfInBounds_toArray, List.set]
              refine wpAnyH_ready (rs := [15]) (by kernel_rfl) (by simp) ?_
              refine AllReadyH.cons (o := _) rfl (fun K hK => ?_) AllReadyH.nil
              (go_simp; go_at_call 40; (with_reducible refine (KBK.out _ (HA.out.below hHeld)).mono ?_); rintro e wn ⟨rfl, hbn⟩)
              refine hK.out _ _ (by (try dsimp only); first | exact hHeld | exact hHeld.trans (hbn.mono hHeld.size)) (fun hHeld => ?_)
              clear hK K
              try simp only [Act.put, List.setIfInBounds_toArray, List.set]
              refine takeD (i := 16) (oi := _) (some 77) (v := ?_) rfl rfl (by kernel_rfl) (by kernel_rfl) (by kernel_rfl) (fun _ _ _ h => h) (Or.inl ⟨by rfl, ?_⟩) (by assumption) ?_
              rotate_left
              · (intro w hSw; (try dsimp only at hSw); have z0 := keepr c0 hSw; have z1 := keepr c1 hSw; have z2 := keepr c2 hSw; have z3 := keepr c3 hSw; go_simp; try with_reducible rfl)
              simp only [Act.put, List.setIfInBounds_toArray, List.set]
              refine takeD (i := 17) (oi := _) (some 78) (v := ?_) rfl rfl (by kernel_rfl) (by kernel_rfl) (by kernel_rfl) (fun _ _ _ h => h) (Or.inl ⟨by rfl, ?_⟩) (by assumption) ?_
              rotate_left
              · (intro w hSw; (try dsimp only at hSw); have z0 := keepr c0 hSw; have z1 := keepr c1 hSw; have z2 := keepr c2 hSw; have z3 := keepr c3 hSw; go_simp; try with_reducible rfl)
              simp only [Act.put, List.setIfInBounds_toArray, List.set]
              refine wpAnyH_done (by kernel_rfl) ?_ _

              have A15 := Lib.hid (HA.out.below hHeld)
              have HL2 := Lib.hid (HL1.out.below hHeld (Nat.le_refl _))
              clear hHeld
              go_wp2_with fail
              go_roundw
              case rel => exact ⟨k + 1, by omega, by go_num, A15, HL2, HN2⟩
              case measure => simp [intOf]; omega
        case neg =>
          obtain rfl : k = L.length := by omega
          have HZ := Lib.hid (show ¬ Hp.crwB h p = true from fun q => by obtain ⟨t, ht, hq⟩ := HCW.out.1 q; exact HNB.out t ht ht hq)
          go_wp2_with fail
          go_ret
          exact ⟨by rw [HMM.out, if_neg HZ.out]; first | done | rfl, HA.out.bl⟩
    case neg =>
      have t0 : (p.col == 0) = false := by simp [h0]
      have t00 : (p.col != 0) = true := by simp [h0]
      go_upto_region 9 with fail
      obtain ⟨-, -, -, -, -, -, g6⟩ := A3.out.bh.hd
      have hcb := HCB.out.symm
      rw [decide_eq_false h0, Bool.false_or] at hcb
      have h1 := of_decide_eq_true (Bool.and_eq_true_iff.1 hcb).1
      have hcb := Bool.and_eq_true_iff.1 (Bool.and_eq_true_iff.1 hcb).2
      have t1 : ¬ (h.cs.length : Int) < 3 := by omega
      rcases A3.out.hC with q | ⟨b, o, hsb, hr⟩
      · rw [q] at h1; simp at h1
      rw [hsb] at g6
      clear hsb
      have k0 := hr 0 (by omega)
      have k1 := hr 1 (by omega)
      have k2 := hr 2 (by omega)
      have e0 : h.cs[0]? = some (h.cs[0]'(by omega)) := List.getElem?_eq_getElem _
      have e1 : h.cs[1]? = some (h.cs[1]'(by omega)) := List.getElem?_eq_getElem _
      have e2 : h.cs[2]? = some (h.cs[2]'(by omega)) := List.getElem?_eq_getElem _
      rw [e0, e1, e2] at hcb
      generalize (h.cs[0]'(by omega)) = c at *
      generalize (h.cs[1]'(by omega)) = d at *
      generalize (h.cs[2]'(by omega)) = f at *
      clear e0 e1 e2 hr
      have hp0 : 0 < h.cs.length := by omega
      have hp1 : 1 < h.cs.length := by omega
      have hp2 : 2 < h.cs.length := by omega
      have hi1 : (1 : Int) < (h.cs.length : Int) := by omega
      have hi2 : (2 : Int) < (h.cs.length : Int) := by omega
      obtain ⟨a0, a1, a2, a3⟩ := k0
      obtain ⟨b0, b1, b2, b3⟩ := k1
      obtain ⟨d0, d1, d2, d3⟩ := k2
      simp only [Nat.zero_mul, Nat.one_mul, Nat.add_zero, Nat.reduceMul, Nat.add_assoc, Nat.reduceAdd] at a0 a1 a2 a3 b0 b1 b2 b3 d0 d1 d2 d3
      have h2 : eqC c d = true := by simpa [eqC] using hcb.1
      have h3 : eqC c f = true := by rw [of_decide_eq_true h2]; simpa [eqC] using hcb.2
      clear HCB hcb
      refine wp_region_held_drew (S := (fun w => Below w3.heap.size w3 w)) (by kernel_rfl) (by (try dsimp only); exact (Below.refl _ _).drew) (fun hHeld => ?_)
      refine takeD (i := 0) (oi := _) (some 22) (v := ?_) rfl rfl (by kernel_rfl) (by kernel_rfl) (by kernel_rfl) (fun _ _ _ h => h) (Or.inl ⟨by rfl, ?_⟩) (by assumption) ?_
      rotate_left
      · (intro w hSw; (try dsimp only at hSw); have z0 := keepr g6 hSw; have ya0 := keepr a0 hSw; have ya1 := keepr a1 hSw; have ya2 := keepr a2 hSw; have ya3 := keepr a3 hSw; have yb0 := keepr b0 hSw; have yb1 := keepr b1 hSw; have yb2 := keepr b2 hSw; have yb3 := keepr b3 hSw; have yd0 := keepr d0 hSw; have yd1 := keepr d1 hSw; have yd2 := keepr d2 hSw; have yd3 := keepr d3 hSw; go_simp; try with_reducible rfl)
      simp only [Act.put, List.setIfInBounds_toArray, List.set]
      refine takeD (i := 1) (oi := _) (some 23) (v := ?_) rfl rfl (by kernel_rfl) (by kernel_rfl) (by kernel_rfl) (fun _ _ _ h => h) (Or.inl ⟨by rfl, ?_⟩) (by assumption) ?_
      rotate_left
      · (intro w hSw; (try dsimp only at hSw); have z0 := keepr g6 hSw; have ya0 := keepr a0 hSw; have ya1 := keepr a1 hSw; have ya2 := keepr a2 hSw; have ya3 := keepr a3 hSw; have yb0 := keepr b0 hSw; have yb1 := keepr b1 hSw; have yb2 := keepr b2 hSw; have yb3 := keepr b3 hSw; have yd0 := keepr d0 hSw; have yd1 := keepr d1 hSw; have yd2 := keepr d2 hSw; have yd3 := keepr d3 hSw; go_simp; try with_reducible rfl)
      simp only [Act.put, List.setIfInBounds_toArray, List.set]
      refine takeD (i := 2) (oi := _) (some 24) (v := ?_) rfl rfl (by kernel_rfl) (by kernel_rfl) (by kernel_rfl) (fun _ _ _ h => h) (Or.inl ⟨by rfl, ?_⟩) (by assumption) ?_
      rotate_left
      · (intro w hSw; (try dsimp only at hSw); have z0 := keepr g6 hSw; have ya0 := keepr a0 hSw; have ya1 := keepr a1 hSw; have ya2 := keepr a2 hSw; have ya3 := keepr a3 hSw; have yb0 := keepr b0 hSw; have yb1 := keepr b1 hSw; have yb2 := keepr b2 hSw; have yb3 := keepr b3 hSw; have yd0 := keepr d0 hSw; have yd1 := keepr d1 hSw; have yd2 := keepr d2 hSw; have yd3 := keepr d3 hSw; go_simp; try with_reducible rfl)
      simp only [Act.put, List.setIfInBounds_toArray, List.set]
      refine takeD (i := 3) (oi := _) (some 25) (v := ?_) rfl rfl (by kernel_rfl) (by kernel_rfl) (by kernel_rfl) (fun _ _ _ h => h) (Or.inl ⟨by rfl, ?_⟩) (by assumption) ?_
      rotate_left
      · (intro w hSw; (try dsimp only at hSw); have z0 := keepr g6 hSw; have ya0 := keepr a0 hSw; have ya1 := keepr a1 hSw; have ya2 := keepr a2 hSw; have ya3 := keepr a3 hSw; have yb0 := keepr b0 hSw; have yb1 := keepr b1 hSw; have yb2 := keepr b2 hSw; have yb3 := keepr b3 hSw; have yd0 := keepr d0 hSw; have yd1 := keepr d1 hSw; have yd2 := keepr d2 hSw; have yd3 := keepr d3 hSw; go_simp; try with_reducible rfl)
      simp only [Act.put, List.setIfInBounds_toArray, List.set]
      refine takeD (i := 4) (oi := _) (some 26) (v := ?_) rfl rfl (by kernel_rfl) (by kernel_rfl) (by kernel_rfl) (fun _ _ _ h => h) (Or.inl ⟨by rfl, ?_⟩) (by assumption) ?_
      rotate_left
      · (intro w hSw; (try dsimp only at hSw); have z0 := keepr g6 hSw; have ya0 := keepr a0 hSw; have ya1 := keepr a1 hSw; have ya2 := keepr a2 hSw; have ya3 := keepr a3 hSw; have yb0 := keepr b0 hSw; have yb1 := keepr b1 hSw; have yb2 := keepr b2 hSw; have yb3 := keepr b3 hSw; have yd0 := keepr d0 hSw; have yd1 := keepr d1 hSw; have yd2 := keepr d2 hSw; have yd3 := keepr d3 hSw; go_simp; try with_reducible rfl)
      simp only [Act.put, List.setIfInBounds_toArray, List.set]
      refine takeD (i := 5) (oi := _) (some 27) (v := ?_) rfl rfl (by kernel_rfl) (by kernel_rfl) (by kernel_rfl) (fun _ _ _ h => h) (Or.inl ⟨by rfl, ?_⟩) (by assumption) ?_
      rotate_left
      · (intro w hSw; (try dsimp only at hSw); have z0 := keepr g6 hSw; have ya0 := keepr a0 hSw; have ya1 := keepr a1 hSw; have ya2 := keepr a2 hSw; have ya3 := keepr a3 hSw; have yb0 := keepr b0 hSw; have yb1 := keepr b1 hSw; have yb2 := keepr b2 hSw; have yb3 := keepr b3 hSw; have yd0 := keepr d0 hSw; have yd1 := keepr d1 hSw; have yd2 := keepr d2 hSw; have yd3 := keepr d3 hSw; go_simp; try with_reducible rfl)
      simp only [Act.put, List.setIfInBounds_toArray, List.set]
      refine takeD (i := 6) (oi := _) (some 28) (v := ?_) rfl rfl (by kernel_rfl) (by kernel_rfl) (by kernel_rfl) (fun _ _ _ h => h) (Or.inl ⟨by rfl, ?_⟩) (by assumption) ?_
      rotate_left
      · (intro w hSw; (try dsimp only at hSw); have z0 := keepr g6 hSw; have ya0 := keepr a0 hSw; have ya1 := keepr a1 hSw; have ya2 := keepr a2 hSw; have ya3 := keepr a3 hSw; have yb0 := keepr b0 hSw; have yb1 := keepr b1 hSw; have yb2 := keepr b2 hSw; have yb3 := keepr b3 hSw; have yd0 := keepr d0 hSw; have yd1 := keepr d1 hSw; have yd2 := keepr d2 hSw; have yd3 := keepr d3 hSw; go_simp; try with_reducible rfl)
      simp only [Act.put, List.setIfInBounds_toArray, List.set]
      refine takeD (i := 7) (oi := _) (some 29) (v := ?_) rfl rfl (by kernel_rfl) (by kernel_rfl) (by kernel_rfl) (fun _ _ _ h => h) (Or.inl ⟨by rfl, ?_⟩) (by assumption) ?_
      rotate_left
      · (intro w hSw; (try dsimp only at hSw); have z0 := keepr g6 hSw; have ya0 := keepr a0 hSw; have ya1 := keepr a1 hSw; have ya2 := keepr a2 hSw; have ya3 := keepr a3 hSw; have yb0 := keepr b0 hSw; have yb1 := keepr b1 hSw; have yb2 := keepr b2 hSw; have yb3 := keepr b3 hSw; have yd0 := keepr d0 hSw; have yd1 := keepr d1 hSw; have yd2 := keepr d2 hSw; have yd3 := keepr d3 hSw; go_simp; try with_reducible rfl)
      simp only [Act.put, List.setIfInBounds_toArray, List.set]
      refine takeD (i := 8) (oi := _) (some 30) (v := ?_) rfl rfl (by kernel_rfl) (by kernel_rfl) (by kernel_rfl) (fun _ _ _ h => h) (Or.inl ⟨by rfl, ?_⟩) (by assumption) ?_
      rotate_left
      · (intro w hSw; (try dsimp only at hSw); have z0 := keepr g6 hSw; have ya0 := keepr a0 hSw; have ya1 := keepr a1 hSw; have ya2 := keepr a2 hSw; have ya3 := keepr a3 hSw; have yb0 := keepr b0 hSw; have yb1 := keepr b1 hSw; have yb2 := keepr b2 hSw; have yb3 := keepr b3 hSw; have yd0 := keepr d0 hSw; have yd1 := keepr d1 hSw; have yd2 := keepr d2 hSw; have yd3 := keepr d3 hSw; go_simp; try with_reducible rfl)
      simp only [Act.put, List.setIfInBounds_toArray, List.set]
      refine takeD (i := 9) (oi := _) (some 31) (v := ?_) rfl rfl (by kernel_rfl) (by kernel_rfl) (by kernel_rfl) (fun _ _ _ h => h) (Or.inl ⟨by rfl, ?_⟩) (by assumption) ?_
      rotate_left
      · (intro w hSw; (try dsimp only at hSw); have z0 := keepr g6 hSw; have ya0 := keepr a0 hSw; have ya1 := keepr a1 hSw; have ya2 := keepr a2 hSw; have ya3 := keepr a3 hSw; have yb0 := keepr b0 hSw; have yb1 := keepr b1 hSw; have yb2 := keepr b2 hSw; have yb3 := keepr b3 hSw; have yd0 := keepr d0 hSw; have yd1 := keepr d1 hSw; have yd2 := keepr d2 hSw; have yd3 := keepr d3 hSw; go_simp; try with_reducible rfl)
      simp only [Act.put, List.setIfInBounds_toArray, List.set]
      refine takeD (i := 10) (oi := _) (some 32) (v := ?_) rfl rfl (by kernel_rfl) (by kernel_rfl) (by kernel_rfl) (fun _ _ _ h => h) (Or.inl ⟨by rfl, ?_⟩) (by assumption) ?_
      rotate_left
      · (intro w hSw; (try dsimp only at hSw); have z0 := keepr g6 hSw; have ya0 := keepr a0 hSw; have ya1 := keepr a1 hSw; have ya2 := keepr a2 hSw; have ya3 := keepr a3 hSw; have yb0 := keepr b0 hSw; have yb1 := keepr b1 hSw; have yb2 := keepr b2 hSw; have yb3 := keepr b3 hSw; have yd0 := keepr d0 hSw; have yd1 := keepr d1 hSw; have yd2 := keepr d2 hSw; have yd3 := keepr d3 hSw; go_simp; try with_reducible rfl)
      simp only [Act.put, List.setIfInBounds_toArray, List.set]
      refine takeD (i := 11) (oi := _) (some 33) (v := ?_) rfl rfl (by kernel_rfl) (by kernel_rfl) (by kernel_rfl) (fun _ _ _ h => h) (Or.inl ⟨by rfl, ?_⟩) (by assumption) ?_
      rotate_left
      · (intro w hSw; (try dsimp only at hSw); have z0 := keepr g6 hSw; have ya0 := keepr a0 hSw; have ya1 := keepr a1 hSw; have ya2 := keepr a2 hSw; have ya3 := keepr a3 hSw; have yb0 := keepr b0 hSw; have yb1 := keepr b1 hSw; have yb2 := keepr b2 hSw; have yb3 := keepr b3 hSw; have yd0 := keepr d0 hSw; have yd1 := keepr d1 hSw; have yd2 := keepr d2 hSw; have yd3 := keepr d3 hSw; go_simp; try with_reducible rfl)
      simp only [Act.put, List.setIfInBounds_toArray, List.set]
      refine takeD (i := 12) (oi := _) (some 34) (v := ?_) rfl rfl (by kernel_rfl) (by kernel_rfl) (by kernel_rfl) (fun _ _ _ h => h) (Or.inl ⟨by rfl, ?_⟩) (by assumption) ?_
      rotate_left
      · (intro w hSw; (try dsimp only at hSw); have z0 := keepr g6 hSw; have ya0 := keepr a0 hSw; have ya1 := keepr a1 hSw; have ya2 := keepr a2 hSw; have ya3 := keepr a3 hSw; have yb0 := keepr b0 hSw; have yb1 := keepr b1 hSw; have yb2 := keepr b2 hSw; have yb3 := keepr b3 hSw; have yd0 := keepr d0 hSw; have yd1 := keepr d1 hSw; have yd2 := keepr d2 hSw; have yd3 := keepr d3 hSw; go_simp; try with_reducible rfl)
      simp only [Act.put, List.setIfInBounds_toArray, List.set]
      refine takeD (i := 13) (oi := _) (some 35) (v := ?_) rfl rfl (by kernel_rfl) (by kernel_rfl) (by kernel_rfl) (fun _ _ _ h => h) (Or.inl ⟨by rfl, ?_⟩) (by assumption) ?_
      rotate_left
      · (intro w hSw; (try dsimp only at hSw); have z0 := keepr g6 hSw; have ya0 := keepr a0 hSw; have ya1 := keepr a1 hSw; have ya2 := keepr a2 hSw; have ya3 := keepr a3 hSw; have yb0 := keepr b0 hSw; have yb1 := keepr b1 hSw; have yb2 := keepr b2 hSw; have yb3 := keepr b3 hSw; have yd0 := keepr d0 hSw; have yd1 := keepr d1 hSw; have yd2 := keepr d2 hSw; have yd3 := keepr d3 hSw; go_simp; try with_reducible rfl)
      simp only [Act.put, List.setIfInBounds_toArray, List.set]
      refine takeD (i := 14) (oi := _) (some 36) (v := ?_) rfl rfl (by kernel_rfl) (by kernel_rfl) (by kernel_rfl) (fun _ _ _ h => h) (Or.inl ⟨by rfl, ?_⟩) (by assumption) ?_
      rotate_left
      · (intro w hSw; (try dsimp only at hSw); have z0 := keepr g6 hSw; have ya0 := keepr a0 hSw; have ya1 := keepr a1 hSw; have ya2 := keepr a2 hSw; have ya3 := keepr a3 hSw; have yb0 := keepr b0 hSw; have yb1 := keepr b1 hSw; have yb2 := keepr b2 hSw; have yb3 := keepr b3 hSw; have yd0 := keepr d0 hSw; have yd1 := keepr d1 hSw; have yd2 := keepr d2 hSw; have yd3 := keepr d3 hSw; go_simp; try with_reducible rfl)
      simp only [Act.put, List.setIfInBounds_toArray, List.set]
      refine takeD (i := 15) (oi := _) (some 37) (v := ?_) rfl rfl (by kernel_rfl) (by kernel_rfl) (by kernel_rfl) (fun _ _ _ h => h) (Or.inl ⟨by rfl, ?_⟩) (by assumption) ?_
      rotate_left
      · (intro w hSw; (try dsimp only at hSw); have z0 := keepr g6 hSw; have ya0 := keepr a0 hSw; have ya1 := keepr a1 hSw; have ya2 := keepr a2 hSw; have ya3 := keepr a3 hSw; have yb0 := keepr b0 hSw; have yb1 := keepr b1 hSw; have yb2 := keepr b2 hSw; have yb3 := keepr b3 hSw; have yd0 := keepr d0 hSw; have yd1 := keepr d1 hSw; have yd2 := keepr d2 hSw; have yd3 := keepr d3 hSw; go_simp; try with_reducible rfl)
      simp only [Act.put, List.setIfInBounds_toArray, List.set]
      refine takeD (i := 16) (oi := _) (some 38) (v := ?_) rfl rfl (by kernel_rfl) (by kernel_rfl) (by kernel_rfl) (fun _ _ _ h => h) (Or.inl ⟨by rfl, ?_⟩) (by assumption) ?_
      rotate_left
      · (intro w hSw; (try dsimp only at hSw); have z0 := keepr g6 hSw; have ya0 := keepr a0 hSw; have ya1 := keepr a1 hSw; have ya2 := keepr a2 hSw; have ya3 := keepr a3 hSw; have yb0 := keepr b0 hSw; have yb1 := keepr b1 hSw; have yb2 := keepr b2 hSw; have yb3 := keepr b3 hSw; have yd0 := keepr d0 hSw; have yd1 := keepr d1 hSw; have yd2 := keepr d2 hSw; have yd3 := keepr d3 hSw; go_simp; try with_reducible rfl)
      simp only [Act.put, List.setIfInBounds_toArray, List.set]
      refine takeD (i := 17) (oi := _) (some 39) (v := ?_) rfl rfl (by kernel_rfl) (by kernel_rfl) (by kernel_rfl) (fun _ _ _ h => h) (Or.inl ⟨by rfl, ?_⟩) (by assumption) ?_
      rotate_left
      · (intro w hSw; (try dsimp only at hSw); have z0 := keepr g6 hSw; have ya0 := keepr a0 hSw; have ya1 := keepr a1 hSw; have ya2 := keepr a2 hSw; have ya3 := keepr a3 hSw; have yb0 := keepr b0 hSw; have yb1 := keepr b1 hSw; have yb2 := keepr b2 hSw; have yb3 := keepr b3 hSw; have yd0 := keepr d0 hSw; have yd1 := keepr d1 hSw; have yd2 := keepr d2 hSw; have yd3 := keepr d3 hSw; go_simp; try with_reducible rfl)
      simp only [Act.put, List.setIfInBounds_toArray, List.set]
      refine takeD (i := 18) (oi := _) (some 40) (v := ?_) rfl rfl (by kernel_rfl) (by kernel_rfl) (by kernel_rfl) (fun _ _ _ h => h) (Or.inl ⟨by rfl, ?_⟩) (by assumption) ?_
      rotate_left
      · (intro w hSw; (try dsimp only at hSw); have z0 := keepr g6 hSw; have ya0 := keepr a0 hSw; have ya1 := keepr a1 hSw; have ya2 := keepr a2 hSw; have ya3 := keepr a3 hSw; have yb0 := keepr b0 hSw; have yb1 := keepr b1 hSw; have yb2 := keepr b2 hSw; have yb3 := keepr b3 hSw; have yd0 := keepr d0 hSw; have yd1 := keepr d1 hSw; have yd2 := keepr d2 hSw; have yd3 := keepr d3 hSw; go_simp; try with_reducible rfl)
      simp only [Act.put, List.setIfInBounds_toArray, List.set]
      refine takeD (i := 19) (oi := _) (some 41) (v := ?_) rfl rfl (by kernel_rfl) (by kernel_rfl) (by kernel_rfl) (fun _ _ _ h => h) (Or.inl ⟨by rfl, ?_⟩) (by assumption) ?_
      rotate_left
      · (intro w hSw; (try dsimp only at hSw); have z0 := keepr g6 hSw; have ya0 := keepr a0 hSw; have ya1 := keepr a1 hSw; have ya2 := keepr a2 hSw; have ya3 := keepr a3 hSw; have yb0 := keepr b0 hSw; have yb1 := keepr b1 hSw; have yb2 := keepr b2 hSw; have yb3 := keepr b3 hSw; have yd0 := keepr d0 hSw; have yd1 := keepr d1 hSw; have yd2 := keepr d2 hSw; have yd3 := keepr d3 hSw; go_simp; try with_reducible rfl)
      simp only [Act.put, List.setIfInBounds_toArray, List.set]
      refine takeD (i := 20) (oi := _) (some 42) (v := ?_) rfl rfl (by kernel_rfl) (by kernel_rfl) (by kernel_rfl) (fun _ _ _ h => h) (Or.inl ⟨by rfl, ?_⟩) (by assumption) ?_
      rotate_left
      · (intro w hSw; (try dsimp only at hSw); have z0 := keepr g6 hSw; have ya0 := keepr a0 hSw; have ya1 := keepr a1 hSw; have ya2 := keepr a2 hSw; have ya3 := keepr a3 hSw; have yb0 := keepr b0 hSw; have yb1 := keepr b1 hSw; have yb2 := keepr b2 hSw; have yb3 := keepr b3 hSw; have yd0 := keepr d0 hSw; have yd1 := keepr d1 hSw; have yd2 := keepr d2 hSw; have yd3 := keepr d3 hSw; go_simp; try with_reducible rfl)
      simp only [Act.put, List.setIfInBounds_toArray, List.set]
      refine takeD (i := 21) (oi := _) (some 43) (v := ?_) rfl rfl (by kernel_rfl) (by kernel_rfl) (by kernel_rfl) (fun _ _ _ h => h) (Or.inl ⟨by rfl, ?_⟩) (by assumption) ?_
      rotate_left
      · (intro w hSw; (try dsimp only at hSw); have z0 := keepr g6 hSw; have ya0 := keepr a0 hSw; have ya1 := keepr a1 hSw; have ya2 := keepr a2 hSw; have ya3 := keepr a3 hSw; have yb0 := keepr b0 hSw; have yb1 := keepr b1 hSw; have yb2 := keepr b2 hSw; have yb3 := keepr b3 hSw; have yd0 := keepr d0 hSw; have yd1 := keepr d1 hSw; have yd2 := keepr d2 hSw; have yd3 := keepr d3 hSw; go_simp; try with_reducible rfl)
      simp only [Act.put, List.setIfInBounds_toArray, List.set]
      refine takeD (i := 22) (oi := _) (some 44) (v := ?_) rfl rfl (by kernel_rfl) (by kernel_rfl) (by kernel_rfl) (fun _ _ _ h => h) (Or.inl ⟨by rfl, ?_⟩) (by assumption) ?_
      rotate_left
      · (intro w hSw; (try dsimp only at hSw); have z0 := keepr g6 hSw; have ya0 := keepr a0 hSw; have ya1 := keepr a1 hSw; have ya2 := keepr a2 hSw; have ya3 := keepr a3 hSw; have yb0 := keepr b0 hSw; have yb1 := keepr b1 hSw; have yb2 := keepr b2 hSw; have yb3 := keepr b3 hSw; have yd0 := keepr d0 hSw; have yd1 := keepr d1 hSw; have yd2 := keepr d2 hSw; have yd3 := keepr d3 hSw; go_simp; try with_reducible rfl)
      simp only [Act.put, List.setIfInBounds_toArray, List.set]
      refine takeD (i := 23) (oi := _) (some 45) (v := ?_) rfl rfl (by kernel_rfl) (by kernel_rfl) (by kernel_rfl) (fun _ _ _ h => h) (Or.inl ⟨by rfl, ?_⟩) (by assumption) ?_
      rotate_left
      · (intro w hSw; (try dsimp only at hSw); have z0 := keepr g6 hSw; have ya0 := keepr a0 hSw; have ya1 := keepr a1 hSw; have ya2 := keepr a2 hSw; have ya3 := keepr a3 hSw; have yb0 := keepr b0 hSw; have yb1 := keepr b1 hSw; have yb2 := keepr b2 hSw; have yb3 := keepr b3 hSw; have yd0 := keepr d0 hSw; have yd1 := keepr d1 hSw; have yd2 := keepr d2 hSw; have yd3 := keepr d3 hSw; go_simp; try with_reducible rfl)
      simp only [Act.put, List.setIfInBounds_toArray, List.set]
      refine takeD (i := 24) (oi := _) (some 46) (v := ?_) rfl rfl (by kernel_rfl) (by kernel_rfl) (by kernel_rfl) (fun _ _ _ h => h) (Or.inl ⟨by rfl, ?_⟩) (by assumption) ?_
      rotate_left
      · (intro w hSw; (try dsimp only at hSw); have z0 := keepr g6 hSw; have ya0 := keepr a0 hSw; have ya1 := keepr a1 hSw; have ya2 := keepr a2 hSw; have ya3 := keepr a3 hSw; have yb0 := keepr b0 hSw; have yb1 := keepr b1 hSw; have yb2 := keepr b2 hSw; have yb3 := keepr b3 hSw; have yd0 := keepr d0 hSw; have yd1 := keepr d1 hSw; have yd2 := keepr d2 hSw; have yd3 := keepr d3 hSw; go_simp; try with_reducible rfl)
      simp only [Act.put, List.setIfInBounds_toArray, List.set]
      refine takeD (i := 25) (oi := _) (some 47) (v := ?_) rfl rfl (by kernel_rfl) (by kernel_rfl) (by kernel_rfl) (fun _ _ _ h => h) (Or.inl ⟨by rfl, ?_⟩) (by assumption) ?_
      rotate_left
      · (intro w hSw; (try dsimp only at hSw); have z0 := keepr g6 hSw; have ya0 := keepr a0 hSw; have ya1 := keepr a1 hSw; have ya2 := keepr a2 hSw; have ya3 := keepr a3 hSw; have yb0 := keepr b0 hSw; have yb1 := keepr b1 hSw; have yb2 := keepr b2 hSw; have yb3 := keepr b3 hSw; have yd0 := keepr d0 hSw; have yd1 := keepr d1 hSw; have yd2 := keepr d2 hSw; have yd3 := keepr d3 hSw; go_simp; try with_reducible rfl)
      simp only [Act.put, List.setIfInBounds_toArray, List.set]
      refine wpAnyH_done (by kernel_rfl) ?_ _
      have A9 := Lib.hid (A3.out.below hHeld)
      clear hHeld
      have A4 := A9
      clear g6 a0 a1 a2 a3 b0 b1 b2 b3 d0 d1 d2 d3
      obtain ⟨g0, g1, g2, g3, g4, g5, g6⟩ := A4.out.bh.hd
      go_upto_region 12 with (first | (go_at_call 38; (with_reducible refine (HKL.out _).mono ?_); rintro e w5 ⟨aL, cL, rfl, hHL, hb⟩; have A5 := Lib.hid (A4.out.below hb); have HL := Lib.hid hHL; clear hb hHL) | fail)
      clear A4 HKL g0 g1 g2 g3 g4 g5 g6
      go_upto_region 13 with fail
      go_loopw [7] (fun v wr => ∃ k : Nat, k ≤ L.length ∧ v = .int .i64 k ∧ Hid (CkS W h p sh s s2 mh m m2 wr) ∧ Hid (Holds wr aL L) ∧ Hid (∀ t (_ : t < L.length), t < k → ¬ (65536 < Hp.pkM h p L[t] * p.lay ∨ 65536 < bkN h p L[t] h.cs.length))) (fun v _ => L.length - (intOf v).toNat)
      case atStart => exact ⟨0, Nat.zero_le _, rfl, A5, HL, Lib.hid (fun _ _ q => absurd q (Nat.not_lt_zero _))⟩
      case round =>
        obtain ⟨k, hk, rfl, HA, HL1, HNB⟩ := hrel
        clear A5 HL
        by_cases hlt : k < L.length
        case pos =>
          rcases HL1.out with z | ⟨b, off, rfl, hr⟩
          · rw [z] at hlt; simp at hlt
          obtain ⟨c0, c1, c2, c3⟩ := hr k hlt
          have hki : (k : Int) < (L.length : Int) := by omega
          have w2' : IntKind.i64.wrap ((k : Int) + 1) = (k : Int) + 1 := IntWalk.i64_in _ (by have := HLL.out; omega)
          have KPK := Lib.hid (KP.out _ (TV.out k hlt))
          have KBK := Lib.hid (KB.out _ (TV.out k hlt))
          have HYES := Lib.hid (show (65536 < Hp.pkM h p L[k] * p.lay ∨ 65536 < bkN h p L[k] h.cs.length) → Hp.crwB h p = true from fun q => HCW.out.2 ⟨k, hlt, q⟩)
          have HNO := Lib.hid (show ¬ (65536 < Hp.pkM h p L[k] * p.lay ∨ 65536 < bkN h p L[k] h.cs.length) → ∀ t (_ : t < L.length), t < k + 1 → ¬ (65536 < Hp.pkM h p L[t] * p.lay ∨ 65536 < bkN h p L[t] h.cs.length) from fun q t ht hs => by
            by_cases e : t = k
            · subst e; exact q
            · exact HNB.out t ht (by omega))
          generalize Hp.pkM h p L[k] * p.lay = PK at *
          generalize bkN h p L[k] h.cs.length = BK at *
          generalize L[k] = V at *
          clear hr
          go_upto_region 15 with fail
          by_cases b1 : 65536 < PK
          case pos =>
            have HY := Lib.hid (HYES.out (.inl b1))
            refine wp_region_held_drew (S := (fun w => Below wr.heap.size wr w)) (by kernel_rfl) (by (try dsimp only); exact (Below.refl _ _).drew) (fun hHeld => ?_)
            refine takeD (i := 0) (oi := _) (some 61) (v := .agg (hvA h sh mh)) rfl rfl (by kernel_rfl) (by kernel_rfl) (by kernel_rfl) (fun _ _ _ h => h) (yieldsIf_load_mid (by rfl) 26 (.tmp 2) rfl W.heap.size 0 rfl (hvA h sh mh).toList _ (fun w hw => (HA.out.bh.below hw).range) Try.underlying26 rfl info7) (by assumption) ?_
            simp only [Act.put, List.setIfInBounds_toArray, List.set]
            refine takeD (i := 1) (oi := _) (some 62) (v := .agg (pvA p s m s2 m2)) rfl rfl (by kernel_rfl) (by kernel_rfl) (by kernel_rfl) (fun _ _ _ h => h) (yieldsIf_load_mid (by rfl) 35 (.tmp 3) rfl (W.heap.size + 1) 0 rfl (pvA p s m s2 m2).toList _ (fun w hw => (HA.out.bp.below hw).range) Try.underlying35 rfl info19) (by assumption) ?_
            simp only [Act.put, List.setIfInBounds_toArray, List.set]
            refine takeD (i := 2) (oi := _) (some 63) (v := ?_) rfl rfl (by kernel_rfl) (by kernel_rfl) (by kernel_rfl) (fun _ _ _ h => h) (Or.inl ⟨by rfl, ?_⟩) (by assumption) ?_
            rotate_left
            · (intro w hSw; (try dsimp only at hSw); have z0 := keepr c0 hSw; have z1 := keepr c1 hSw; have z2 := keepr c2 hSw; have z3 := keepr c3 hSw; go_simp; try with_reducible rfl)
            simp only [Act.put, List.setIfInBounds_toArray, List.set]
            refine takeD (i := 3) (oi := _) (some 64) (v := ?_) rfl rfl (by kernel_rfl) (by kernel_rfl) (by kernel_rfl) (fun _ _ _ h => h) (Or.inl ⟨by rfl, ?_⟩) (by assumption) ?_
            rotate_left
            · (intro w hSw; (try dsimp only at hSw); have z0 := keepr c0 hSw; have z1 := keepr c1 hSw; have z2 := keepr c2 hSw; have z3 := keepr c3 hSw; go_simp; try with_reducible rfl)
            simp only [Act.put, List.setIfInBounds_toArray, List.set]
            refine takeD (i := 4) (oi := _) (some 65) (v := ?_) rfl rfl (by kernel_rfl) (by kernel_rfl) (by kernel_rfl) (fun _ _ _ h => h) (Or.inl ⟨by rfl, ?_⟩) (by assumption) ?_
            rotate_left
            · (intro w hSw; (try dsimp only at hSw); have z0 := keepr c0 hSw; have z1 := keepr c1 hSw; have z2 := keepr c2 hSw; have z3 := keepr c3 hSw; go_simp; try with_reducible rfl)
            simp only [Act.put, List.setIfInBounds_toArray, List.set]
            refine takeD (i := 5) (oi := _) (some 66) (v := ?_) rfl rfl (by kernel_rfl) (by kernel_rfl) (by kernel_rfl) (fun _ _ _ h => h) (Or.inl ⟨by rfl, ?_⟩) (by assumption) ?_
            rotate_left
            · (intro w hSw; (try dsimp only at hSw); have z0 := keepr c0 hSw; have z1 := keepr c1 hSw; have z2 := keepr c2 hSw; have z3 := keepr c3 hSw; go_simp; try with_reducible rfl)
            simp only [Act.put, List.setIfInBounds_toArray, List.set]
            refine wpAnyH_ready (rs := [6]) (by kernel_rfl) (by simp) ?_
            refine AllReadyH.cons (o := _) rfl (fun K hK => ?_) AllReadyH.nil
            (go_simp; go_at_call 39; (with_reducible refine (KPK.out _ (HA.out.below hHeld)).mono ?_); rintro e wn ⟨rfl, hbn⟩)
            refine hK.out _ _ (by (try dsimp only); first | exact hHeld | exact hHeld.trans (hbn.mono hHeld.size)) (fun hHeld => ?_)
            clear hK K
            try simp only [Act.put, List.setIfInBounds_toArray, List.set]
            refine takeD (i := 7) (oi := _) (some 68) (v := ?_) rfl rfl (by kernel_rfl) (by kernel_rfl) (by kernel_rfl) (fun _ _ _ h => h) (Or.inl ⟨by rfl, ?_⟩) (by assumption) ?_
            rotate_left
            · (intro w hSw; (try dsimp only at hSw); have z0 := keepr c0 hSw; have z1 := keepr c1 hSw; have z2 := keepr c2 hSw; have z3 := keepr c3 hSw; go_simp; try with_reducible rfl)
            simp only [Act.put, List.setIfInBounds_toArray, List.set]
            refine takeD (i := 8) (oi := _) (some 69) (v := ?_) rfl rfl (by kernel_rfl) (by kernel_rfl) (by kernel_rfl) (fun _ _ _ h => h) (Or.inl ⟨by rfl, ?_⟩) (by assumption) ?_
            rotate_left
            · (intro w hSw; (try dsimp only at hSw); have z0 := keepr c0 hSw; have z1 := keepr c1 hSw; have z2 := keepr c2 hSw; have z3 := keepr c3 hSw; go_simp; try with_reducible rfl)
            simp only [Act.put, List.setIfInBounds_toArray, List.set]
            refine takeD (i := 9) (oi := _) (some 70) (v := undef) rfl rfl (by kernel_rfl) (by kernel_rfl) (by kernel_rfl) (fun _ _ _ h => h) (Or.inr ⟨by rfl, rfl⟩) (by assumption) ?_
            simp only [Act.put, List.setIfInBounds_toArray, List.set]
            refine takeD (i := 10) (oi := _) (some 71) (v := undef) rfl rfl (by kernel_rfl) (by kernel_rfl) (by kernel_rfl) (fun _ _ _ h => h) (Or.inr ⟨by rfl, rfl⟩) (by assumption) ?_
            simp only [Act.put, List.setIfInBounds_toArray, List.set]
            refine takeD (i := 11) (oi := _) (some 72) (v := undef) rfl rfl (by kernel_rfl) (by kernel_rfl) (by kernel_rfl) (fun _ _ _ h => h) (Or.inr ⟨by rfl, rfl⟩) (by assumption) ?_
            simp only [Act.put, List.setIfInBounds_toArray, List.set]
            refine takeD (i := 12) (oi := _) (some 73) (v := undef) rfl rfl (by kernel_rfl) (by kernel_rfl) (by kernel_rfl) (fun _ _ _ h => h) (Or.inr ⟨by rfl, rfl⟩) (by assumption) ?_
            simp only [Act.put, List.setIfInBounds_toArray, List.set]
            refine takeD (i := 13) (oi := _) (some 74) (v := undef) rfl rfl (by kernel_rfl) (by kernel_rfl) (by kernel_rfl) (fun _ _ _ h => h) (Or.inr ⟨by rfl, rfl⟩) (by assumption) ?_
            simp only [Act.put, List.setIfInBounds_toArray, List.set]
            refine takeD (i := 14) (oi := _) (some 75) (v := undef) rfl rfl (by kernel_rfl) (by kernel_rfl) (by kernel_rfl) (fun _ _ _ h => h) (Or.inr ⟨by rfl, rfl⟩) (by assumption) ?_
            simp only [Act.put, List.setIfInBounds_toArray, List.set]
            refine takeD (i := 15) (oi := _) (some 76) (v := undef) rfl rfl (by kernel_rfl) (by kernel_rfl) (by kernel_rfl) (fun _ _ _ h => h) (Or.inr ⟨by rfl, rfl⟩) (by assumption) ?_
            simp only [Act.put, List.setIfInBounds_toArray, List.set]
            refine takeD (i := 16) (oi := _) (some 77) (v := undef) rfl rfl (by kernel_rfl) (by kernel_rfl) (by kernel_rfl) (fun _ _ _ h => h) (Or.inr ⟨by rfl, rfl⟩) (by assumption) ?_
            simp only [Act.put, List.setIfInBounds_toArray, List.set]
            refine takeD (i := 17) (oi := _) (some 78) (v := ?_) rfl rfl (by kernel_rfl) (by kernel_rfl) (by kernel_rfl) (fun _ _ _ h => h) (Or.inl ⟨by rfl, ?_⟩) (by assumption) ?_
            rotate_left
            · (intro w hSw; (try dsimp only at hSw); have z0 := keepr c0 hSw; have z1 := keepr c1 hSw; have z2 := keepr c2 hSw; have z3 := keepr c3 hSw; go_simp; try with_reducible rfl)
            simp only [Act.put, List.setIfInBounds_toArray, List.set]
            refine wpAnyH_done (by kernel_rfl) ?_ _

            have A15 := Lib.hid (HA.out.below hHeld)
            clear hHeld
            go_wp2_with fail
            go_ret
            exact ⟨by rw [HMM.out, if_pos HY.out]; first | done | rfl, A15.out.bl⟩
          case neg =>
            by_cases b2 : 65536 < BK
            case pos =>
              have HY := Lib.hid (HYES.out (.inr b2))
              refine wp_region_held_drew (S := (fun w => Below wr.heap.size wr w)) (by kernel_rfl) (by (try dsimp only); exact (Below.refl _ _).drew) (fun hHeld => ?_)
              refine takeD (i := 0) (oi := _) (some 61) (v := .agg (hvA h sh mh)) rfl rfl (by kernel_rfl) (by kernel_rfl) (by kernel_rfl) (fun _ _ _ h => h) (yieldsIf_load_mid (by rfl) 26 (.tmp 2) rfl W.heap.size 0 rfl (hvA h sh mh).toList _ (fun w hw => (HA.out.bh.below hw).range) Try.underlying26 rfl info7) (by assumption) ?_
              simp only [Act.put, List.setIfInBounds_toArray, List.set]
              refine takeD (i := 1) (oi := _) (some 62) (v := .agg (pvA p s m s2 m2)) rfl rfl (by kernel_rfl) (by kernel_rfl) (by kernel_rfl) (fun _ _ _ h => h) (yieldsIf_load_mid (by rfl) 35 (.tmp 3) rfl (W.heap.size + 1) 0 rfl (pvA p s m s2 m2).toList _ (fun w hw => (HA.out.bp.below hw).range) Try.underlying35 rfl info19) (by assumption) ?_
              simp only [Act.put, List.setIfInBounds_toArray, List.set]
              refine takeD (i := 2) (oi := _) (some 63) (v := ?_) rfl rfl (by kernel_rfl) (by kernel_rfl) (by kernel_rfl) (fun _ _ _ h => h) (Or.inl ⟨by rfl, ?_⟩) (by assumption) ?_
              rotate_left
              · (intro w hSw; (try dsimp only at hSw); have z0 := keepr c0 hSw; have z1 := keepr c1 hSw; have z2 := keepr c2 hSw; have z3 := keepr c3 hSw; go_simp; try with_reducible rfl)
              simp only [Act.put, List.setIfInBounds_toArray, List.set]
              refine takeD (i := 3) (oi := _) (some 64) (v := ?_) rfl rfl (by kernel_rfl) (by kernel_rfl) (by kernel_rfl) (fun _ _ _ h => h) (Or.inl ⟨by rfl, ?_⟩) (by assumption) ?_
              rotate_left
              · (intro w hSw; (try dsimp only at hSw); have z0 := keepr c0 hSw; have z1 := keepr c1 hSw; have z2 := keepr c2 hSw; have z3 := keepr c3 hSw; go_simp; try with_reducible rfl)
              simp only [Act.put, List.setIfInBounds_toArray, List.set]
              refine takeD (i := 4) (oi := _) (some 65) (v := ?_) rfl rfl (by kernel_rfl) (by kernel_rfl) (by kernel_rfl) (fun _ _ _ h => h) (Or.inl ⟨by rfl, ?_⟩) (by assumption) ?_
              rotate_left
              · (intro w hSw; (try dsimp only at hSw); have z0 := keepr c0 hSw; have z1 := keepr c1 hSw; have z2 := keepr c2 hSw; have z3 := keepr c3 hSw; go_simp; try with_reducible rfl)
              simp only [Act.put, List.setIfInBounds_toArray, List.set]
              refine takeD (i := 5) (oi := _) (some 66) (v := ?_) rfl rfl (by kernel_rfl) (by kernel_rfl) (by kernel_rfl) (fun _ _ _ h => h) (Or.inl ⟨by rfl, ?_⟩) (by assumption) ?_
              rotate_left
              · (intro w hSw; (try dsimp only at hSw); have z0 := keepr c0 hSw; have z1 := keepr c1 hSw; have z2 := keepr c2 hSw; have z3 := keepr c3 hSw; go_simp; try with_reducible rfl)
              simp only [Act.put, List.setIfInBounds_toArray, List.set]
              refine wpAnyH_ready (rs := [6]) (by kernel_rfl) (by simp) ?_
              refine AllReadyH.cons (o := _) rfl (fun K hK => ?_) AllReadyH.nil
              (go_simp; go_at_call 39; (with_reducible refine (KPK.out _ (HA.out.below hHeld)).mono ?_); rintro e wn ⟨rfl, hbn⟩)
              refine hK.out _ _ (by (try dsimp only); first | exact hHeld | exact hHeld.trans (hbn.mono hHeld.size)) (fun hHeld => ?_)
              clear hK K
              try simp only [Act.put, List.setIfInBounds_toArray, List.set]
              refine takeD (i := 7) (oi := _) (some 68) (v := ?_) rfl rfl (by kernel_rfl) (by kernel_rfl) (by kernel_rfl) (fun _ _ _ h => h) (Or.inl ⟨by rfl, ?_⟩) (by assumption) ?_
              rotate_left
              · (intro w hSw; (try dsimp only at hSw); have z0 := keepr c0 hSw; have z1 := keepr c1 hSw; have z2 := keepr c2 hSw; have z3 := keepr c3 hSw; go_simp; try with_reducible rfl)
              simp only [Act.put, List.setIfInBounds_toArray, List.set]
              refine takeD (i := 8) (oi := _) (some 69) (v := ?_) rfl rfl (by kernel_rfl) (by kernel_rfl) (by kernel_rfl) (fun _ _ _ h => h) (Or.inl ⟨by rfl, ?_⟩) (by assumption) ?_
              rotate_left
              · (intro w hSw; (try dsimp only at hSw); have z0 := keepr c0 hSw; have z1 := keepr c1 hSw; have z2 := keepr c2 hSw; have z3 := keepr c3 hSw; go_simp; try with_reducible rfl)
              simp only [Act.put, List.setIfInBounds_toArray, List.set]
              refine takeD (i := 9) (oi := _) (some 70) (v := .agg (hvA h sh mh)) rfl rfl (by kernel_rfl) (by kernel_rfl) (by kernel_rfl) (fun _ _ _ h => h) (yieldsIf_load_mid (by rfl) 26 (.tmp 2) rfl W.heap.size 0 rfl (hvA h sh mh).toList _ (fun w hw => (HA.out.bh.below hw).range) Try.underlying26 rfl info7) (by assumption) ?_
              simp only [Act.put, List.setIfInBounds_toArray, List.set]
              refine takeD (i := 10) (oi := _) (some 71) (v := .agg (pvA p s m s2 m2)) rfl rfl (by kernel_rfl) (by kernel_rfl) (by kernel_rfl) (fun _ _ _ h => h) (yieldsIf_load_mid (by rfl) 35 (.tmp 3) rfl (W.heap.size + 1) 0 rfl (pvA p s m s2 m2).toList _ (fun w hw => (HA.out.bp.below hw).range) Try.underlying35 rfl info19) (by assumption) ?_
              simp only [Act.put, List.setIfInBounds_toArray, List.set]
              refine takeD (i := 11) (oi := _) (some 72) (v := ?_) rfl rfl (by kernel_rfl) (by kernel_rfl) (by kernel_rfl) (fun _ _ _ h => h) (Or.inl ⟨by rfl, ?_⟩) (by assumption) ?_
              rotate_left
              · (intro w hSw; (try dsimp only at hSw); have z0 := keepr c0 hSw; have z1 := keepr c1 hSw; have z2 := keepr c2 hSw; have z3 := keepr c3 hSw; go_simp; try with_reducible rfl)
              simp only [Act.put, List.setIfInBounds_toArray, List.set]
              refine takeD (i := 12) (oi := _) (some 73) (v := ?_) rfl rfl (by kernel_rfl) (by kernel_rfl) (by kernel_rfl) (fun _ _ _ h => h) (Or.inl ⟨by rfl, ?_⟩) (by assumption) ?_
              rotate_left
              · (intro w hSw; (try dsimp only at hSw); have z0 := keepr c0 hSw; have z1 := keepr c1 hSw; have z2 := keepr c2 hSw; have z3 := keepr c3 hSw; go_simp; try with_reducible rfl)
              simp only [Act.put, List.setIfInBounds_toArray, List.set]
              refine takeD (i := 13) (oi := _) (some 74) (v := ?_) rfl rfl (by kernel_rfl) (by kernel_rfl) (by kernel_rfl) (fun _ _ _ h => h) (Or.inl ⟨by rfl, ?_⟩) (by assumption) ?_
              rotate_left
              · (intro w hSw; (try dsimp only at hSw); have z0 := keepr c0 hSw; have z1 := keepr c1 hSw; have z2 := keepr c2 hSw; have z3 := keepr c3 hSw; go_simp; try with_reducible rfl)
              simp only [Act.put, List.setIfInBounds_toArray, List.set]
              refine takeD (i := 14) (oi := _) (some 75) (v := ?_) rfl rfl (by kernel_rfl) (by kernel_rfl) (by kernel_rfl) (fun _ _ _ h => h) (Or.inl ⟨by rfl, ?_⟩) (by assumption) ?_
              rotate_left
              · (intro w hSw; (try dsimp only at hSw); have z0 := keepr c0 hSw; have z1 := keepr c1 hSw; have z2 := keepr c2 hSw; have z3 := keepr c3 hSw; go_simp; try with_reducible rfl)
              simp only [Act.put, List.setIfInBounds_toArray, List.set]
              refine wpAnyH_ready (rs := [15]) (by kernel_rfl) (by simp) ?_
              refine AllReadyH.cons (o := _) rfl (fun K hK => ?_) AllReadyH.nil
              (go_simp; go_at_call 40; (with_reducible refine (KBK.out _ (HA.out.below hHeld)).mono ?_); rintro e wn ⟨rfl, hbn⟩)
              refine hK.out _ _ (by (try dsimp only); first | exact hHeld | exact hHeld.trans (hbn.mono hHeld.size)) (fun hHeld => ?_)
              clear hK K
              try simp only [Act.put, List.setIfInBounds_toArray, List.set]
              refine takeD (i := 16) (oi := _) (some 77) (v := ?_) rfl rfl (by kernel_rfl) (by kernel_rfl) (by kernel_rfl) (fun _ _ _ h => h) (Or.inl ⟨by rfl, ?_⟩) (by assumption) ?_
              rotate_left
              · (intro w hSw; (try dsimp only at hSw); have z0 := keepr c0 hSw; have z1 := keepr c1 hSw; have z2 := keepr c2 hSw; have z3 := keepr c3 hSw; go_simp; try with_reducible rfl)
              simp only [Act.put, List.setIfInBounds_toArray, List.set]
              refine takeD (i := 17) (oi := _) (some 78) (v := ?_) rfl rfl (by kernel_rfl) (by kernel_rfl) (by kernel_rfl) (fun _ _ _ h => h) (Or.inl ⟨by rfl, ?_⟩) (by assumption) ?_
              rotate_left
              · (intro w hSw; (try dsimp only at hSw); have z0 := keepr c0 hSw; have z1 := keepr c1 hSw; have z2 := keepr c2 hSw; have z3 := keepr c3 hSw; go_simp; try with_reducible rfl)
              simp only [Act.put, List.setIfInBounds_toArray, List.set]
              refine wpAnyH_done (by kernel_rfl) ?_ _

              have A15 := Lib.hid (HA.out.below hHeld)
              clear hHeld
              go_wp2_with fail
              go_ret
              exact ⟨by rw [HMM.out, if_pos HY.out]; first | done | rfl, A15.out.bl⟩
            case neg =>
              have HN2 := Lib.hid (HNO.out (fun q => q.elim b1 b2))
              refine wp_region_held_drew (S := (fun w => Below wr.heap.size wr w)) (by kernel_rfl) (by (try dsimp only); exact (Below.refl _ _).drew) (fun hHeld => ?_)
              refine takeD (i := 0) (oi := _) (some 61) (v := .agg (hvA h sh mh)) rfl rfl (by kernel_rfl) (by kernel_rfl) (by kernel_rfl) (fun _ _ _ h => h) (yieldsIf_load_mid (by rfl) 26 (.tmp 2) rfl W.heap.size 0 rfl (hvA h sh mh).toList _ (fun w hw => (HA.out.bh.below hw).range) Try.underlying26 rfl info7) (by assumption) ?_
              simp only [Act.put, List.setIfInBounds_toArray, List.set]
              refine takeD (i := 1) (oi := _) (some 62) (v := .agg (pvA p s m s2 m2)) rfl rfl (by kernel_rfl) (by kernel_rfl) (by kernel_rfl) (fun _ _ _ h => h) (yieldsIf_load_mid (by rfl) 35 (.tmp 3) rfl (W.heap.size + 1) 0 rfl (pvA p s m s2 m2).toList _ (fun w hw => (HA.out.bp.below hw).range) Try.underlying35 rfl info19) (by assumption) ?_
              simp only [Act.put, List.setIfInBounds_toArray, List.set]
              refine takeD (i := 2) (oi := _) (some 63) (v := ?_) rfl rfl (by kernel_rfl) (by kernel_rfl) (by kernel_rfl) (fun _ _ _ h => h) (Or.inl ⟨by rfl, ?_⟩) (by assumption) ?_
              rotate_left
              · (intro w hSw; (try dsimp only at hSw); have z0 := keepr c0 hSw; have z1 := keepr c1 hSw; have z2 := keepr c2 hSw; have z3 := keepr c3 hSw; go_simp; try with_reducible rfl)
              simp only [Act.put, List.setIfInBounds_toArray, List.set]
              refine takeD (i := 3) (oi := _) (some 64) (v := ?_) rfl rfl (by kernel_rfl) (by kernel_rfl) (by kernel_rfl) (fun _ _ _ h => h) (Or.inl ⟨by rfl, ?_⟩) (by assumption) ?_
              rotate_left
              · (intro w hSw; (try dsimp only at hSw); have z0 := keepr c0 hSw; have z1 := keepr c1 hSw; have z2 := keepr c2 hSw; have z3 := keepr c3 hSw; go_simp; try with_reducible rfl)
              simp only [Act.put, List.setIfInBounds_toArray, List.set]
              refine takeD (i := 4) (oi := _) (some 65) (v := ?_) rfl rfl (by kernel_rfl) (by kernel_rfl) (by kernel_rfl) (fun _ _ _ h => h) (Or.inl ⟨by rfl, ?_⟩) (by assumption) ?_
              rotate_left
              · (intro w hSw; (try dsimp only at hSw); have z0 := keepr c0 hSw; have z1 := keepr c1 hSw; have z2 := keepr c2 hSw; have z3 := keepr c3 hSw; go_simp; try with_reducible rfl)
              simp only [Act.put, List.setIfInBounds_toArray, List.set]
              refine takeD (i := 5) (oi := _) (some 66) (v := ?_) rfl rfl (by kernel_rfl) (by kernel_rfl) (by kernel_rfl) (fun _ _ _ h => h) (Or.inl ⟨by rfl, ?_⟩) (by assumption) ?_
              rotate_left
              · (intro w hSw; (try dsimp only at hSw); have z0 := keepr c0 hSw; have z1 := keepr c1 hSw; have z2 := keepr c2 hSw; have z3 := keepr c3 hSw; go_simp; try with_reducible rfl)
              simp only [Act.put, List.setIfInBounds_toArray, List.set]
              refine wpAnyH_ready (rs := [6]) (by kernel_rfl) (by simp) ?_
              refine AllReadyH.cons (o := _) rfl (fun K hK => ?_) AllReadyH.nil
              (go_simp; go_at_call 39; (with_reducible refine (KPK.out _ (HA.out.below hHeld)).mono ?_); rintro e wn ⟨rfl, hbn⟩)
              refine hK.out _ _ (by (try dsimp only); first | exact hHeld | exact hHeld.trans (hbn.mono hHeld.size)) (fun hHeld => ?_)
              clear hK K
              try simp only [Act.put, List.setIfInBounds_toArray, List.set]
              refine takeD (i := 7) (oi := _) (some 68) (v := ?_) rfl rfl (by kernel_rfl) (by kernel_rfl) (by kernel_rfl) (fun _ _ _ h => h) (Or.inl ⟨by rfl, ?_⟩) (by assumption) ?_
              rotate_left
              · (intro w hSw; (try dsimp only at hSw); have z0 := keepr c0 hSw; have z1 := keepr c1 hSw; have z2 := keepr c2 hSw; have z3 := keepr c3 hSw; go_simp; try with_reducible rfl)
              simp only [Act.put, List.setIfInBounds_toArray, List.set]
              refine takeD (i := 8) (oi := _) (some 69) (v := ?_) rfl rfl (by kernel_rfl) (by kernel_rfl) (by kernel_rfl) (fun _ _ _ h => h) (Or.inl ⟨by rfl, ?_⟩) (by assumption) ?_
              rotate_left
              · (intro w hSw; (try dsimp only at hSw); have z0 := keepr c0 hSw; have z1 := keepr c1 hSw; have z2 := keepr c2 hSw; have z3 := keepr c3 hSw; go_simp; try with_reducible rfl)
              simp only [Act.put, List.setIfInBounds_toArray, List.set]
              refine takeD (i := 9) (oi := _) (some 70) (v := .agg (hvA h sh mh)) rfl rfl (by kernel_rfl) (by kernel_rfl) (by kernel_rfl) (fun _ _ _ h => h) (yieldsIf_load_mid (by rfl) 26 (.tmp 2) rfl W.heap.size 0 rfl (hvA h sh mh).toList _ (fun w hw => (HA.out.bh.below hw).range) Try.underlying26 rfl info7) (by assumption) ?_
              simp only [Act.put, List.setIfInBounds_toArray, List.set]
              refine takeD (i := 10) (oi := _) (some 71) (v := .agg (pvA p s m s2 m2)) rfl rfl (by kernel_rfl) (by kernel_rfl) (by kernel_rfl) (fun _ _ _ h => h) (yieldsIf_load_mid (by rfl) 35 (.tmp 3) rfl (W.heap.size + 1) 0 rfl (pvA p s m s2 m2).toList _ (fun w hw => (HA.out.bp.below hw).range) Try.underlying35 rfl info19) (by assumption) ?_
              simp only [Act.put, List.setIfInBounds_toArray, List.set]
              refine takeD (i := 11) (oi := _) (some 72) (v := ?_) rfl rfl (by kernel_rfl) (by kernel_rfl) (by kernel_rfl) (fun _ _ _ h => h) (Or.inl ⟨by rfl, ?_⟩) (by assumption) ?_
              rotate_left
              · (intro w hSw; (try dsimp only at hSw); have z0 := keepr c0 hSw; have z1 := keepr c1 hSw; have z2 := keepr c2 hSw; have z3 := keepr c3 hSw; go_simp; try with_reducible rfl)
              simp only [Act.put, List.setIfInBounds_toArray, List.set]
              refine takeD (i := 12) (oi := _) (some 73) (v := ?_) rfl rfl (by kernel_rfl) (by kernel_rfl) (by kernel_rfl) (fun _ _ _ h => h) (Or.inl ⟨by rfl, ?_⟩) (by assumption) ?_
              rotate_left
              · (intro w hSw; (try dsimp only at hSw); have z0 := keepr c0 hSw; have z1 := keepr c1 hSw; have z2 := keepr c2 hSw; have z3 := keepr c3 hSw; go_simp; try with_reducible rfl)
              simp only [Act.put, List.setIfInBounds_toArray, List.set]
              refine takeD (i := 13) (oi := _) (some 74) (v := ?_) rfl rfl (by kernel_rfl) (by kernel_rfl) (by kernel_rfl) (fun _ _ _ h => h) (Or.inl ⟨by rfl, ?_⟩) (by assumption) ?_
              rotate_left
              · (intro w hSw; (try dsimp only at hSw); have z0 := keepr c0 hSw; have z1 := keepr c1 hSw; have z2 := keepr c2 hSw; have z3 := keepr c3 hSw; go_simp; try with_reducible rfl)
              simp only [Act.put, List.setIfInBounds_toArray, List.set]
              refine takeD (i := 14) (oi := _) (some 75) (v := ?_) rfl rfl (by kernel_rfl) (by kernel_rfl) (by kernel_rfl) (fun _ _ _ h => h) (Or.inl ⟨by rfl, ?_⟩) (by assumption) ?_
              rotate_left
              · (intro w hSw; (try dsimp only at hSw); have z0 := keepr c0 hSw; have z1 := keepr c1 hSw; have z2 := keepr c2 hSw; have z3 := keepr c3 hSw; go_simp; try with_reducible rfl)
              simp only [Act.put, List.setIfInBounds_toArray, List.set]
              refine wpAnyH_ready (rs := [15]) (by kernel_rfl) (by simp) ?_
              refine AllReadyH.cons (o := _) rfl (fun K hK => ?_) AllReadyH.nil
              (go_simp; go_at_call 40; (with_reducible refine (KBK.out _ (HA.out.below hHeld)).mono ?_); rintro e wn ⟨rfl, hbn⟩)
              refine hK.out _ _ (by (try dsimp only); first | exact hHeld | exact hHeld.trans (hbn.mono hHeld.size)) (fun hHeld => ?_)
              clear hK K
              try simp only [Act.put, List.setIfInBounds_toArray, List.set]
              refine takeD (i := 16) (oi := _) (some 77) (v := ?_) rfl rfl (by kernel_rfl) (by kernel_rfl) (by kernel_rfl) (fun _ _ _ h => h) (Or.inl ⟨by rfl, ?_⟩) (by assumption) ?_
              rotate_left
              · (intro w hSw; (try dsimp only at hSw); have z0 := keepr c0 hSw; have z1 := keepr c1 hSw; have z2 := keepr c2 hSw; have z3 := keepr c3 hSw; go_simp; try with_reducible rfl)
              simp only [Act.put, List.setIfInBounds_toArray, List.set]
              refine takeD (i := 17) (oi := _) (some 78) (v := ?_) rfl rfl (by kernel_rfl) (by kernel_rfl) (by kernel_rfl) (fun _ _ _ h => h) (Or.inl ⟨by rfl, ?_⟩) (by assumption) ?_
              rotate_left
              · (intro w hSw; (try dsimp only at hSw); have z0 := keepr c0 hSw; have z1 := keepr c1 hSw; have z2 := keepr c2 hSw; have z3 := keepr c3 hSw; go_simp; try with_reducible rfl)
              simp only [Act.put, List.setIfInBounds_toArray, List.set]
              refine wpAnyH_done (by kernel_rfl) ?_ _

              have A15 := Lib.hid (HA.out.below hHeld)
              have HL2 := Lib.hid (HL1.out.below hHeld (Nat.le_refl _))
              clear hHeld
              go_wp2_with fail
              go_roundw
              case rel => exact ⟨k + 1, by omega, by go_num, A15, HL2, HN2⟩
              case measure => simp [intOf]; omega
        case neg =>
          obtain rfl : k = L.length := by omega
          have HZ := Lib.hid (show ¬ Hp.crwB h p = true from fun q => by obtain ⟨t, ht, hq⟩ := HCW.out.1 q; exact HNB.out t ht ht hq)
          go_wp2_with fail
          go_ret
          exact ⟨by rw [HMM.out, if_neg HZ.out]; first | done | rfl, HA.out.bl⟩
end Go.Proofs.Ytkcjbehfhcmiaaa
