/-
  Split of the reference of layer 5 where it returns planes.
-/
import Derived.Test.YtnfnidgabgdphaaDwF
import Derived.Test.YtnfnidgabgdphaaDwB
import Derived.Laws.ResultCell
set_option maxRecDepth 100000
namespace Go.Proofs.Ytnfnidgabgdphaa
open Go.RowKit

def arrP (R : Nat → Pl.R) (V : Nat → Value) : Array Value := (rcs (R 0) ++ [V 0] ++ rcs (R 1) ++ [V 1] ++ rcs (R 2) ++ [V 2] ++ rcs (R 3) ++ [V 3]).toArray
theorem arrP_get (R : Nat → Pl.R) (V : Nat → Value) : arrP R V = #[.int .i64 (R 0).x0, .int .i64 (R 0).y0, .int .i64 (R 0).x1, .int .i64 (R 0).y1, V 0, .int .i64 (R 1).x0, .int .i64 (R 1).y0, .int .i64 (R 1).x1, .int .i64 (R 1).y1, V 1, .int .i64 (R 2).x0, .int .i64 (R 2).y0, .int .i64 (R 2).x1, .int .i64 (R 2).y1, V 2, .int .i64 (R 3).x0, .int .i64 (R 3).y0, .int .i64 (R 3).x1, .int .i64 (R 3).y1, V 3] := rfl
/-- What a plane of rows becomes: the rows of four planes, by orientation. -/
def bandQ (a b kn : Int) (n : Nat) (P : List (List Int)) (o : Nat) : List (List Int) :=
  if o = 0 then Ex.lowC b kn (Ex.cntE a n) (Ex.lowR a kn P) else if o = 1 then Ex.lowC b kn (Ex.cntO a n) (Ex.highR a kn P) else if o = 2 then Ex.highC b kn (Ex.cntE a n) (Ex.lowR a kn P) else Ex.highC b kn (Ex.cntO a n) (Ex.highR a kn P)
/-- Four planes and an error, in memory of the call's own. -/
def GivesP4 (R : Nat → Pl.R) (D : Nat → List Int) (err : Int) (w : World) (e : Ending) (w' : World) : Prop :=
  ∃ (s : Nat → Option Addr) (m : Nat → Nat), e = .returned (.tuple #[.agg (arrP R fun o => .slice (s o) (D o).length (m o)), .int .i64 err]) ∧ (∀ o, o < 4 → HoldsI w' (s o) (D o) ∧ (D o).length ≤ m o ∧ (s o = none → m o = 0) ∧ Fresh w (s o)) ∧ Below w.heap.size w w'
theorem info20 : (Try.prog.info? 33).map (·.size) = some 20 := by kernel_rfl
theorem pv_facts {a b c d : Int} {n : Nat} (h : pvB a b c d n = true) : ∃ x y : Nat, c - a = (x : Int) ∧ d - b = (y : Int) ∧ x ≤ 4096 ∧ y ≤ 4096 ∧ n = y * x ∧ 0 ≤ a ∧ a ≤ 4096 ∧ 0 ≤ b ∧ b ≤ 4096 ∧ 0 ≤ c ∧ c ≤ 4096 ∧ 0 ≤ d ∧ d ≤ 4096 ∧ Pl.validB a b c d = true := by
  obtain ⟨h1, _, h3⟩ := pv_iff.1 h
  obtain ⟨v1, v2, v3, v4, v5, v6⟩ := Pl.valid_iff.1 h1
  refine ⟨(c - a).toNat, (d - b).toNat, by omega, by omega, by omega, by omega, ?_, by omega, by omega, by omega, by omega, by omega, by omega, by omega, by omega, h1⟩
  have e1 : ((c - a).toNat : Int) = c - a := by omega
  have e2 : ((d - b).toNat : Int) = d - b := by omega
  have : (n : Int) = (((d - b).toNat * (c - a).toNat : Nat) : Int) := by
    rw [Int.natCast_mul, e1, e2, h3, Pl.areaI, if_pos h1, Int.mul_comm]
  omega
theorem row_facts {y n : Nat} (hy : y < 4096) (hn : n ≤ 4096) : ∃ p q : Nat, y * n = p ∧ y * n + n = q ∧ p + n = q ∧ IntKind.i64.wrap ((y : Int) * (n : Int)) = (p : Int) ∧ wrap64 ((y : Int) * (n : Int)) = (p : Int) ∧ IntKind.i64.wrap (((y : Int) + 1) * (n : Int)) = (q : Int) ∧ wrap64 (((y : Int) + 1) * (n : Int)) = (q : Int) ∧ IntKind.i64.wrap ((y : Int) + 1) = (y : Int) + 1 := by
  have hb := mul_4096 (show y + 1 ≤ 4096 by omega) hn
  have h1 : (y + 1) * n = y * n + n := by rw [Nat.add_mul, Nat.one_mul]
  have hi : (y : Int) * (n : Int) = ((y * n : Nat) : Int) := by rw [Int.natCast_mul]
  have hj : ((y : Int) + 1) * (n : Int) = ((y * n + n : Nat) : Int) := by rw [← h1, Int.natCast_mul]; rfl
  rw [h1] at hb
  generalize y * n = p at *
  refine ⟨p, p + n, rfl, rfl, rfl, ?_, ?_, ?_, ?_, IntWalk.i64_in _ (by omega)⟩
  · rw [hi, IntWalk.i64_in _ (by omega)]
  · rw [hi]; exact IntWalk.wrap64_in _ ⟨by omega, by omega⟩
  · rw [hj, IntWalk.i64_in _ (by omega)]
  · rw [hj]; exact IntWalk.wrap64_in _ ⟨by omega, by omega⟩
theorem bd_row {a : Int} {n h : Nat} {l : List Int} (hl : l.length = h * n) (hf : Ex.within 35184372088832 l) (h0 : 0 ≤ a) (h1 : a ≤ 4096) (hn : n ≤ 4096) {y : Nat} (hy : y < h) : fwB ((l.drop (y * n)).take n) a = true ∧ ((l.drop (y * n)).take n).length = n ∧ y * n + n ≤ l.length := by
  have : (y + 1) * n ≤ h * n := Nat.mul_le_mul_right _ hy
  rw [Nat.add_mul, Nat.one_mul] at this
  have hlen : ((l.drop (y * n)).take n).length = n := by simp; omega
  refine ⟨fw_iff.2 ⟨⟨h0, h1, by omega⟩, fun v hv => ?_⟩, hlen, by omega⟩
  have := hf v (List.mem_of_mem_drop (List.mem_of_mem_take hv))
  omega
theorem g2_cells {w W W1 : World} (h : Below w.heap.size w W) (h1 : Below W.heap.size W W1) {g1 g2 : Nat} (hg1 : W.heap.size ≤ g1) (hg2 : W.heap.size ≤ g2) (hne : g1 ≠ g2)
    (hr1 : W1.heap[g1]? = some (.cells #[] 3)) (hr2 : W1.heap[g2]? = some (.cells #[] 3)) : G2 w (.slice (some ⟨g1, 0, none⟩) 0 0) [] (.slice (some ⟨g2, 0, none⟩) 0 0) [] W1 := by
  have hs := h.size
  refine ⟨⟨below_call h h1, ⟨rfl, .inr ⟨g1, 0, #[], rfl, by omega, hr1, Nat.zero_le _, Nat.zero_le _, rfl, by simp⟩⟩⟩, ⟨below_call h h1, ⟨rfl, .inr ⟨g2, 0, #[], rfl, by omega, hr2, Nat.zero_le _, Nat.zero_le _, rfl, by simp⟩⟩⟩, fun g e1 e2 => ?_⟩
  simp [Value.ownBlock] at e1 e2
  exact hne (e1.trans e2.symm)
theorem g2_start {w W : World} (h : Below w.heap.size w W) : G2 w (.slice (some ⟨W.heap.size, 0, none⟩) 0 0) [] (.slice (some ⟨W.heap.size + 1, 0, none⟩) 0 0) [] ((W.alloc (.cells #[] 3)).alloc (.cells #[] 3)) := by
  refine g2_cells h (below_alloc (below_alloc (Below.refl _ W) _) _) (Nat.le_refl _) (Nat.le_succ _) (by omega) ?_ ?_
  · exact (((Below.refl (W.alloc (.cells #[] 3)).heap.size (W.alloc (.cells #[] 3))).alloc (Nat.le_refl _) _).block W.heap.size (by simp)).trans (heap_alloc_new W _)
  · have h := heap_alloc_new (W.alloc (.cells #[] 3)) (.cells #[] 3)
    rw [show (W.alloc (.cells #[] 3)).heap.size = W.heap.size + 1 by simp] at h
    exact h
def upK (R : Nat → Pl.R) (k : Nat) (o : Nat) : Pl.R := if o < k then R o else zR
theorem blkP_rect (R : Nat → Pl.R) (V : Nat → Value) (k : Nat) (hk : k < 4) {w : World} {B : Nat} {T : TypeId} (h : Blk w B T (arrP (upK R k) V)) :
    Blk ((((w.setCell ⟨B, 5 * k, none⟩ (.int .i64 (R k).x0)).setCell ⟨B, 5 * k + 1, none⟩ (.int .i64 (R k).y0)).setCell ⟨B, 5 * k + 2, none⟩ (.int .i64 (R k).x1)).setCell ⟨B, 5 * k + 3, none⟩ (.int .i64 (R k).y1)) B T (arrP (upK R (k + 1)) V) := by
  have h4 := (((h.set (5 * k) (.int .i64 (R k).x0)).set (5 * k + 1) (.int .i64 (R k).y0)).set (5 * k + 2) (.int .i64 (R k).x1)).set (5 * k + 3) (.int .i64 (R k).y1)
  have e : ((((arrP (upK R k) V).setIfInBounds (5 * k) (.int .i64 (R k).x0)).setIfInBounds (5 * k + 1) (.int .i64 (R k).y0)).setIfInBounds (5 * k + 2) (.int .i64 (R k).x1)).setIfInBounds (5 * k + 3) (.int .i64 (R k).y1) = arrP (upK R (k + 1)) V := by
    have hk5 : k = 0 ∨ k = 1 ∨ k = 2 ∨ k = 3 := by omega
    rcases hk5 with rfl | rfl | rfl | rfl <;> simp [arrP_get, upK]
  rw [e] at h4
  exact h4
theorem arrP_data (R : Nat → Pl.R) (V : Nat → Value) (o : Nat) (ho : o < 4) (v : Value) : (arrP R V).setIfInBounds (5 * o + 4) v = arrP R (fun i => if i = o then v else V i) := by
  have h : o = 0 ∨ o = 1 ∨ o = 2 ∨ o = 3 := by omega
  rcases h with rfl | rfl | rfl | rfl <;> simp [arrP_get]
theorem blkP_data {R : Nat → Pl.R} {V : Nat → Value} {w : World} {B : Nat} {T : TypeId} (h : Blk w B T (arrP R V)) (o : Nat) (ho : o < 4) (v : Value) : Blk (w.setCell ⟨B, 5 * o + 4, none⟩ v) B T (arrP R (fun i => if i = o then v else V i)) := by
  have := h.set (5 * o + 4) v
  rwa [arrP_data R V o ho v] at this
theorem lt4 {k : Nat} (h : k < 4) : k = 0 ∨ k = 1 ∨ k = 2 ∨ k = 3 := by omega
theorem HoldsI.farW {W W0 : World} {s : Option Addr} {l : List Int} (h : HoldsI W s l) (hf : Fresh W0 s) {B i : Nat} (hB : B < W0.heap.size) (v : Value) : HoldsI (W.setCell ⟨B, i, none⟩ v) s l := by
  rcases h with h | ⟨b, off, rfl, h⟩
  · exact .inl h
  · have h1 := hf _ rfl
    simp at h1
    exact .inr ⟨b, off, rfl, fun k hk => cell_far _ (h k hk) (by simp; omega)⟩
theorem HoldsI.rowW {W W0 : World} {s : Option Addr} {l : List Int} (h : HoldsI W s l) (hf : Fresh W0 s) {B : Nat} (hB : B < W0.heap.size) (cs : Array Value) : HoldsI (W.setRow B cs) s l := by
  rcases h with h | ⟨b, off, rfl, h⟩
  · exact .inl h
  · have h1 := hf _ rfl
    simp at h1
    refine .inr ⟨b, off, rfl, fun k hk => (World.cell?_of_block (w := W) ?_).trans (h k hk)⟩
    simp only [World.setRow, Array.getElem?_modify]
    rw [if_neg (by omega)]
theorem Fresh.up {w W : World} {s : Option Addr} (h : Fresh W s) (hb : Below w.heap.size w W) : Fresh w s := fun a e => Nat.le_trans hb.size (h a e)
theorem lohi_within {b s kn : Int} {x : List Int} (hk : kB kn = true) (hb : 0 ≤ b) (hw : Ex.within b x) : Ex.within (4 * b + 2) (Ex.loF s kn x) ∧ Ex.within (4 * b + 2) (Ex.hiF s kn x) := by
  have hkk := k_iff.1 hk
  obtain ⟨b1, b2, b3, b4⟩ := hb_bd hkk hb
  refine ⟨fun v hv => ?_, fun v hv => ?_⟩
  · obtain ⟨j, hj, hp, rfl⟩ := Ex.splitE_mem hv
    have hj' := hj
    rw [Ex.fwd_len] at hj'
    have := (Ex.fwd_bd (s := s) hkk hb hw (i := s + (j : Int)) (by omega) (by omega)).1 hp
    rw [Ex.sg_at hj] at this
    omega
  · obtain ⟨j, hj, hp, rfl⟩ := Ex.splitO_mem hv
    have hj' := hj
    rw [Ex.fwd_len] at hj'
    have := (Ex.fwd_bd (s := s) hkk hb hw (i := s + (j : Int)) (by omega) (by omega)).2 hp
    rw [Ex.sg_at hj] at this
    omega
theorem rows_within {b s kn : Int} {P : List (List Int)} (hk : kB kn = true) (hb : 0 ≤ b) (hw : Ex.within b P.flatten) : Ex.within (4 * b + 2) (Ex.lowR s kn P).flatten ∧ Ex.within (4 * b + 2) (Ex.highR s kn P).flatten := by
  have hr : ∀ r ∈ P, Ex.within b r := fun r hr v hv => hw v (List.mem_flatten.2 ⟨r, hr, hv⟩)
  refine ⟨fun v hv => ?_, fun v hv => ?_⟩
  · obtain ⟨q, hq, hv⟩ := List.mem_flatten.1 hv
    obtain ⟨r, hr', rfl⟩ := List.mem_map.1 hq
    exact (lohi_within hk hb (hr r hr')).1 v hv
  · obtain ⟨q, hq, hv⟩ := List.mem_flatten.1 hv
    obtain ⟨r, hr', rfl⟩ := List.mem_map.1 hq
    exact (lohi_within hk hb (hr r hr')).2 v hv
theorem bnds_w {a b c d : Int} {n : Nat} (hv : Pl.validB a b c d = true) (hn : c - a = (n : Int)) : (bnds ⟨a, b, c, d⟩ 0).x1 - (bnds ⟨a, b, c, d⟩ 0).x0 = (Ex.cntE a n : Int) ∧ (bnds ⟨a, b, c, d⟩ 1).x1 - (bnds ⟨a, b, c, d⟩ 1).x0 = (Ex.cntO a n : Int) := by
  rw [bnds, if_pos hv, bnds, if_pos hv]
  simp only [bndR, hfI, orH]
  unfold Ex.cntO Ex.cntE
  simp
  omega
theorem cntO_bd {a b c d : Int} {n : Nat} (hv : Pl.validB a b c d = true) (hn : c - a = (n : Int)) (n4 : n ≤ 4096) : IntKind.i64.wrap ((bnds ⟨a, b, c, d⟩ 0).x1 - (bnds ⟨a, b, c, d⟩ 0).x0) = (Ex.cntE a n : Int) ∧ IntKind.i64.wrap ((bnds ⟨a, b, c, d⟩ 1).x1 - (bnds ⟨a, b, c, d⟩ 1).x0) = (Ex.cntO a n : Int) := by
  obtain ⟨h1, h2⟩ := bnds_w hv hn
  have h3 := Ex.cnt_le (s := a) (n := n)
  exact ⟨by rw [h1, IntWalk.i64_in _ (by omega)], by rw [h2, IntWalk.i64_in _ (by omega)]⟩
set_option maxRecDepth 100000 in
set_option maxHeartbeats 4000000 in
theorem split5_yes (a b c d kn : Int) (l : List Int) (s : Option Addr) (m n h : Nat) (w : World) (hp : pvB a b c d l.length = true) (hk : kB kn = true) (hf : fewB l 35184372088832 = true) (hs : s = none → l.length = 0 ∧ m = 0) (hm : l.length ≤ m) (hH : HoldsI w s l) (hn : c - a = (n : Int)) (hh : d - b = (h : Int)) :
    Calls Try.prog 22 #[.agg #[.int .i64 a, .int .i64 b, .int .i64 c, .int .i64 d, .slice s l.length m], .int .i64 kn] w (GivesP4 (bnds ⟨a, b, c, d⟩) (fun o => (bandQ a b kn n (Ex.cutR n l h) o).flatten) 0 w) := by
  obtain ⟨n', h', e1, e2, n4, h4, hlen, a0, a1, b0, b1, c0, c1, d0, d1, hv⟩ := pv_facts hp
  obtain rfl : n' = n := by omega
  obtain rfl : h' = h := by omega
  clear e1 e2
  have hfw := few_iff.1 hf
  have w1 : IntKind.i64.wrap (c - a) = (n' : Int) := by rw [IntWalk.i64_in _ (by omega)]; exact hn
  have w2 : IntKind.i64.wrap (d - b) = (h' : Int) := by rw [IntWalk.i64_in _ (by omega)]; exact hh
  have hl4 : l.length ≤ 16777216 := by rw [hlen]; exact mul_4096 h4 n4
  have HLn : Hid _ := hlen
  clear hlen
  have x0 := (Blk.fresh w 30 #[.int .i64 a, .int .i64 b, .int .i64 c, .int .i64 d, .slice s l.length m]).alloc (.cells (arrP (fun _ => zR) fun _ => .slice none 0 0) 33)
  have x1 := Blk.freshAt (w.alloc (.cells #[.int .i64 a, .int .i64 b, .int .i64 c, .int .i64 d, .slice s l.length m] 30)) (w.heap.size + 1) (by simp) 33 (arrP (fun _ => zR) fun _ => .slice none 0 0)
  have lH := (hH.alloc (.cells #[.int .i64 a, .int .i64 b, .int .i64 c, .int .i64 d, .slice s l.length m] 30)).alloc (.cells (arrP (fun _ => zR) fun _ => .slice none 0 0) 33)
  have B := below_alloc (below_alloc (Below.refl _ w) (.cells #[.int .i64 a, .int .i64 b, .int .i64 c, .int .i64 d, .slice s l.length m] 30)) (.cells (arrP (fun _ => zR) fun _ => .slice none 0 0) 33)
  go_enter Try.func22, Try.ntmps22
  go_wp2_with fail
  refine (pv_r _ _ _ _ _ _ _ _).mono ?_
  rintro e wa ⟨rfl, hb⟩
  replace x0 := x0.below hb
  replace x1 := x1.below hb
  replace lH := lH.call hb
  replace B := below_call B hb
  clear hb
  have y0 := x0.cell 0 _ rfl
  have y1 := x0.cell 1 _ rfl
  have y2 := x0.cell 2 _ rfl
  have y3 := x0.cell 3 _ rfl
  have y4 := x0.cell 4 _ rfl
  have cA := (abv_r l 35184372088832 s m wa (by decide) (by decide) (by omega) lH).mono fun _ _ x => (⟨x.1, x.2.symm⟩ : _ ∧ wa = _)
  rw [hf] at cA
  clear hf
  go_wp2_with (first | (go_at_call 73; refine ((kn5_r _ _).mono fun _ _ x => (⟨x.1, x.2.symm⟩ : _ ∧ _)).mono ?_; rintro e wn ⟨rfl, rfl⟩) | (go_at_call 74; (with_reducible refine cA.mono ?_); rintro e wn ⟨rfl, rfl⟩))
  clear hp cA
  go_quiet (fail)
  obtain ⟨W1, hW1⟩ : ∃ W1, W1 = wa.drewN nq := ⟨_, rfl⟩
  have z0 : Blk W1 w.heap.size 30 #[.int .i64 a, .int .i64 b, .int .i64 c, .int .i64 d, .slice s l.length m] := hW1 ▸ x0.drewN nq
  have z1 : Blk W1 (w.heap.size + 1) 33 (arrP (fun _ => zR) fun _ => .slice none 0 0) := hW1 ▸ x1.drewN nq
  have zH : HoldsI W1 s l := hW1 ▸ (show HoldsI (wa.drewN nq) s l from lH)
  have BW : Below w.heap.size w W1 := hW1 ▸ below_drewN B nq
  rw [← hW1]
  have ga := g2_start (Below.refl W1.heap.size W1)
  have hS1 : (w.heap.size + 1) < W1.heap.size := z1.lt
  clear hW1 x0 x1 lH B y0 y1 y2 y3 y4 hH
  go_wp2_with fail
  go_loopw [8, 9, 10, 11, 12, 13] (fun v8 v9 i _ _ _ wr => ∃ (y : Nat) (o1 o2 : List Int) (q1 q2 : Value), y ≤ h' ∧ i = .int .i64 y ∧ q1 = v8 ∧ q2 = v9 ∧ o1 = ((Ex.lowR a kn (Ex.cutR n' l h')).take y).flatten ∧ o2 = ((Ex.highR a kn (Ex.cutR n' l h')).take y).flatten ∧ G2 W1 q1 o1 q2 o2 wr) (fun _ _ i _ _ _ _ => h' - (intOf i).toNat)
  case atStart => exact ⟨0, [], [], _, _, Nat.zero_le _, rfl, rfl, rfl, by simp, by simp, ga⟩
  case round =>
    obtain ⟨y, o1, o2, q1, q2, hy, rfl, rfl, rfl, hO1, hO2, hG⟩ := hrel
    clear ga
    by_cases hlt : y < h'
    · have hyi : (y : Int) < (h' : Int) := by omega
      obtain ⟨hfwr, hrl, hle⟩ := bd_row HLn.out hfw a0 a1 n4 hlt
      obtain ⟨s', m', hsl, hHr, hsn⟩ := slice_row (w := wr) (zH.below hG.l1.below (Nat.le_refl _)) hs hm (y * n') n' hle
      obtain ⟨p, q, ep, eq, epq, u1, u1', u2, u2', u3⟩ := row_facts (y := y) (by omega) n4
      have hyC : y < (Ex.cutR n' l h').length := by rw [Ex.cutR_len]; exact hlt
      have hrow : (Ex.cutR n' l h')[y] = (l.drop (y * n')).take n' := Ex.cutR_at hyC
      have hx1 : o1 ++ Ex.loF a kn (Ex.cutR n' l h')[y] = ((Ex.lowR a kn (Ex.cutR n' l h')).take (y + 1)).flatten := by
        rw [flat_next (by rw [Ex.lowR, List.length_map]; exact hyC), ← hO1]; simp [Ex.lowR]
      have hx2 : o2 ++ Ex.hiF a kn (Ex.cutR n' l h')[y] = ((Ex.highR a kn (Ex.cutR n' l h')).take (y + 1)).flatten := by
        rw [flat_next (by rw [Ex.highR, List.length_map]; exact hyC), ← hO2]; simp [Ex.highR]
      have hol : o1.length ≤ 16777216 ∧ o2.length ≤ 16777216 := by
        have hw := Ex.cutR_wide HLn.out
        rw [hO1, hO2, take_len (Ex.lowR_wide hw) (by rw [Ex.lowR, List.length_map]; omega), take_len (Ex.highR_wide hw) (by rw [Ex.highR, List.length_map]; omega)]
        have hk := Ex.cnt_le (s := a) (n := n')
        have hy4 : y ≤ 4096 := Nat.le_trans hy h4
        exact ⟨mul_4096 hy4 (Nat.le_trans hk.1 n4), mul_4096 hy4 (Nat.le_trans hk.2 n4)⟩
      rw [hrow] at hx1 hx2
      rw [eq] at hsl
      rw [ep] at hsl hHr hfwr hrl hx1 hx2
      obtain ⟨hol1, hol2⟩ := hol
      have HX1 : Hid _ := hx1
      have HX2 : Hid _ := hx2
      clear hx1 hx2 hrow hyC hO1 hO2 ep eq epq hle
      generalize (l.drop p).take n' = row at *
      have hrw : row.length ≤ 4096 := by omega
      have cF := fwd_n row a kn s' m' n' wr.drew hk hfwr (fun e => ⟨by rw [hrl]; exact (hsn e).1, (hsn e).2⟩) hHr hrl.symm
      have g0 := z0.below hG.l1.below
      have y0 := g0.cell 0 _ rfl
      have y4 := g0.cell 4 _ rfl
      clear hrl hfwr hsn hHr
      have hB1 := hG.l1.below
      have hl1 := fun k e => (hG.l1.own.lt k e).2
      have hl2 := fun k e => (hG.l2.own.lt k e).2
      go_wp2_with fail
      go_region_law (first | (go_simp; go_at_call 75; (with_reducible refine cF.mono ?_); rintro e w3 ⟨s1, m1, s2, m2, rfl, a1, a2, hb, ⟨c1, d1, f1⟩, ⟨c2, d2, f2⟩⟩; go_wp2_with fail))
      all_goals
        have hG3 := (hG.step (Below.refl _ wr).drew).step hb
        have e1 : Fresh wr s1 := f1
        have e2 : Fresh wr s2 := f2
        have t1 : (Ex.loF a kn row).length ≤ 4096 := by rw [Ex.loF_len]; exact Nat.le_trans Ex.cnt_le.1 hrw
        have t2 : (Ex.hiF a kn row).length ≤ 4096 := by rw [Ex.hiF_len]; exact Nat.le_trans Ex.cnt_le.2 hrw
        go_wp2_with (at_builtin; refine append_holds rfl _ _ rfl W1.heap.size _ o1 rfl hG3.l1.own s1 _ m1 _ rfl rfl a1 d1 (by omega) hG3.l1.below.size ?_)
        intro v8 w4 own4 hg4 hat4
        have own4' : w4.ownsRow W1.heap.size 3 1 v8 (o1 ++ Ex.loF a kn row).length ((o1 ++ Ex.loF a kn row).map (Value.int .i64)) := by rw [List.length_append, List.map_append]; exact own4
        have hG4 := hG3.pushL hg4 own4' hat4
        have a3 := holds_pushL a2 hg4 e2 hl1
        obtain ⟨sv, mv, rfl⟩ := own_slice own4
        clear own4 own4' hg4 hat4 hG3 a1 a2 hb
        go_wp2_with (at_builtin; refine append_holds rfl _ _ rfl W1.heap.size _ o2 rfl hG4.l2.own s2 _ m2 _ rfl rfl a3 d2 (by omega) hG4.l2.below.size ?_)
        intro v9 w5 own5 hg5 hat5
        have own5' : w5.ownsRow W1.heap.size 3 1 v9 (o2 ++ Ex.hiF a kn row).length ((o2 ++ Ex.hiF a kn row).map (Value.int .i64)) := by rw [List.length_append, List.map_append]; exact own5
        have hG5 := (hG4.swap.pushL hg5 own5' hat5).swap
        obtain ⟨sv2, mv2, rfl⟩ := own_slice own5
        have HG : Hid _ := hG5
        clear own5 own5' hg5 hat5 hG4 hG5 a3
        go_wp2
        go_roundw
        case rel => exact ⟨y + 1, _, _, _, _, by omega, by go_num, rfl, rfl, HX1.out, HX2.out, HG.out⟩
        case measure => simp [intOf]; omega
    · obtain rfl : y = h' := Nat.le_antisymm hy (Nat.le_of_not_lt hlt)
      obtain ⟨W2, rfl⟩ : ∃ W2, W2 = wr := ⟨_, rfl⟩
      have hCl : (Ex.cutR n' l y).length = y := Ex.cutR_len _ _ _
      have hCw := Ex.cutR_wide HLn.out
      have hL : o1 = (Ex.lowR a kn (Ex.cutR n' l y)).flatten := by rw [hO1, List.take_of_length_le (by rw [Ex.lowR, List.length_map, hCl]; exact Nat.le_refl _)]
      have hR : o2 = (Ex.highR a kn (Ex.cutR n' l y)).flatten := by rw [hO2, List.take_of_length_le (by rw [Ex.highR, List.length_map, hCl]; exact Nat.le_refl _)]
      obtain ⟨s1, m1, rfl, l1, _⟩ := hG.l1.holds
      obtain ⟨s2, m2, rfl, l2, _⟩ := hG.l2.holds
      have g0 := z0.below hG.l1.below
      have g1 := z1.below hG.l1.below
      have BW2 := below_call BW hG.l1.below
      have hwr : Ex.within 140737488355330 o1 ∧ Ex.within 140737488355330 o2 := by
        rw [hL, hR]
        exact rows_within hk (show (0 : Int) ≤ 35184372088832 by decide) (by rw [Ex.cutR_flat HLn.out]; exact hfw)
      have y0 := g0.cell 0 _ rfl
      have y1 := g0.cell 1 _ rfl
      have y2 := g0.cell 2 _ rfl
      have y3 := g0.cell 3 _ rfl
      have HL : Hid _ := hL
      have HR : Hid _ := hR
      have HCl : Hid _ := hCl
      clear hO1 hO2 hL hR hG z0 z1 zH BW hCl hfw hlt
      obtain ⟨A, hA⟩ : ∃ A, A = arr4 (bnds ⟨a, b, c, d⟩) := ⟨_, rfl⟩
      have hA16 : 16 = A.size := by rw [hA]; rfl
      have HA16 : Hid _ := hA16
      clear hA16
      have hAo : A.all (·.oneCell') = true := by rw [hA]; exact one16 _
      have hAi : (Try.prog.info? 24).map (·.size) = some A.size := by rw [hA]; exact info16
      have cB := bands_r a b c d W2
      rw [← hA] at cB
      have HA : Hid _ := hA
      clear hA
      go_upto_region 16 with (first | (go_at_call 18; (with_reducible refine cB.mono ?_); rintro e w3 ⟨rfl, hb⟩) | (refine wpList_store_row rfl 24 (.tmp 14) (.tmp 77) rfl w3.heap.size A rfl rfl 24 _ (Blk.fresh w3 24 #[.int .i64 0, .int .i64 0, .int .i64 0, .int .i64 0, .int .i64 0, .int .i64 0, .int .i64 0, .int .i64 0, .int .i64 0, .int .i64 0, .int .i64 0, .int .i64 0, .int .i64 0, .int .i64 0, .int .i64 0, .int .i64 0]) hAi HA16.out hAo ?_))
      obtain ⟨W3, hW3⟩ : ∃ W3, W3 = (w3.alloc (.cells #[.int .i64 0, .int .i64 0, .int .i64 0, .int .i64 0, .int .i64 0, .int .i64 0, .int .i64 0, .int .i64 0, .int .i64 0, .int .i64 0, .int .i64 0, .int .i64 0, .int .i64 0, .int .i64 0, .int .i64 0, .int .i64 0] 24)).setRow w3.heap.size A := ⟨_, rfl⟩
      have r0 : Blk W3 w3.heap.size 24 A := hW3 ▸ (Blk.fresh w3 24 #[.int .i64 0, .int .i64 0, .int .i64 0, .int .i64 0, .int .i64 0, .int .i64 0, .int .i64 0, .int .i64 0, .int .i64 0, .int .i64 0, .int .i64 0, .int .i64 0, .int .i64 0, .int .i64 0, .int .i64 0, .int .i64 0]).row A
      have B3 : Below W2.heap.size W2 W3 := hW3 ▸ below_row (below_alloc hb _) hb.size _
      have hlt3 : w3.heap.size < W3.heap.size := r0.lt
      have hRB : W2.heap.size ≤ W3.heap.size := B3.size
      rw [← hW3]
      clear hW3
      go_wp2_with (refine wpList_store_row rfl 33 (.tmp 15) (.tmp 78) rfl W3.heap.size #[.int .i64 0, .int .i64 0, .int .i64 0, .int .i64 0, .slice none 0 0, .int .i64 0, .int .i64 0, .int .i64 0, .int .i64 0, .slice none 0 0, .int .i64 0, .int .i64 0, .int .i64 0, .int .i64 0, .slice none 0 0, .int .i64 0, .int .i64 0, .int .i64 0, .int .i64 0, .slice none 0 0] rfl rfl 33 _ (Blk.fresh W3 33 #[.int .i64 0, .int .i64 0, .int .i64 0, .int .i64 0, .slice none 0 0, .int .i64 0, .int .i64 0, .int .i64 0, .int .i64 0, .slice none 0 0, .int .i64 0, .int .i64 0, .int .i64 0, .int .i64 0, .slice none 0 0, .int .i64 0, .int .i64 0, .int .i64 0, .int .i64 0, .slice none 0 0]) info20 rfl (by simp [Value.oneCell']) ?_)
      have r1 : Blk _ W3.heap.size 33 (arrP (fun _ => zR) fun _ => .slice none 0 0) := (Blk.fresh W3 33 #[.int .i64 0, .int .i64 0, .int .i64 0, .int .i64 0, .slice none 0 0, .int .i64 0, .int .i64 0, .int .i64 0, .int .i64 0, .slice none 0 0, .int .i64 0, .int .i64 0, .int .i64 0, .int .i64 0, .slice none 0 0, .int .i64 0, .int .i64 0, .int .i64 0, .int .i64 0, .slice none 0 0]).row #[.int .i64 0, .int .i64 0, .int .i64 0, .int .i64 0, .slice none 0 0, .int .i64 0, .int .i64 0, .int .i64 0, .int .i64 0, .slice none 0 0, .int .i64 0, .int .i64 0, .int .i64 0, .int .i64 0, .slice none 0 0, .int .i64 0, .int .i64 0, .int .i64 0, .int .i64 0, .slice none 0 0]
      replace r0 : Blk _ w3.heap.size 24 A := (setRow_other (W3.alloc (.cells #[.int .i64 0, .int .i64 0, .int .i64 0, .int .i64 0, .slice none 0 0, .int .i64 0, .int .i64 0, .int .i64 0, .int .i64 0, .slice none 0 0, .int .i64 0, .int .i64 0, .int .i64 0, .int .i64 0, .slice none 0 0, .int .i64 0, .int .i64 0, .int .i64 0, .int .i64 0, .slice none 0 0] 33)) W3.heap.size w3.heap.size #[.int .i64 0, .int .i64 0, .int .i64 0, .int .i64 0, .slice none 0 0, .int .i64 0, .int .i64 0, .int .i64 0, .int .i64 0, .slice none 0 0, .int .i64 0, .int .i64 0, .int .i64 0, .int .i64 0, .slice none 0 0, .int .i64 0, .int .i64 0, .int .i64 0, .int .i64 0, .slice none 0 0] (Nat.ne_of_lt hlt3)).trans (r0.alloc (.cells #[.int .i64 0, .int .i64 0, .int .i64 0, .int .i64 0, .slice none 0 0, .int .i64 0, .int .i64 0, .int .i64 0, .int .i64 0, .slice none 0 0, .int .i64 0, .int .i64 0, .int .i64 0, .int .i64 0, .slice none 0 0, .int .i64 0, .int .i64 0, .int .i64 0, .int .i64 0, .slice none 0 0] 33))
      replace B3 := below_row (below_alloc B3 (.cells #[.int .i64 0, .int .i64 0, .int .i64 0, .int .i64 0, .slice none 0 0, .int .i64 0, .int .i64 0, .int .i64 0, .int .i64 0, .slice none 0 0, .int .i64 0, .int .i64 0, .int .i64 0, .int .i64 0, .slice none 0 0, .int .i64 0, .int .i64 0, .int .i64 0, .int .i64 0, .slice none 0 0] 33)) hRB #[.int .i64 0, .int .i64 0, .int .i64 0, .int .i64 0, .slice none 0 0, .int .i64 0, .int .i64 0, .int .i64 0, .int .i64 0, .slice none 0 0, .int .i64 0, .int .i64 0, .int .i64 0, .int .i64 0, .slice none 0 0, .int .i64 0, .int .i64 0, .int .i64 0, .int .i64 0, .slice none 0 0]
      clear hb y0 y1 y2 y3
      go_loopw [16] (fun i wr => ∃ k : Nat, k ≤ 4 ∧ i = .int .i64 k ∧ Blk wr w3.heap.size 24 A ∧ Blk wr W3.heap.size 33 (arrP (upK (bnds ⟨a, b, c, d⟩) k) fun _ => .slice none 0 0) ∧ Below W2.heap.size W2 wr) (fun i _ => 4 - (intOf i).toNat)
      case atStart => exact ⟨0, Nat.zero_le _, rfl, r0, r1, B3⟩
      case round =>
        obtain ⟨k, hk4, rfl, p0, p1, BP⟩ := hrel
        clear r0 r1 B3
        by_cases hlt : k < 4
        · have hk5 := lt4 hlt
          clear hk4 hlt
          rcases hk5 with rfl | rfl | rfl | rfl
          · have q0 : wr.cell? ⟨w3.heap.size, 0, none⟩ = some (.int .i64 (bnds ⟨a, b, c, d⟩ 0).x0) := p0.cell 0 _ (by rw [HA.out]; rfl)
            have q1 : wr.cell? ⟨w3.heap.size, 1, none⟩ = some (.int .i64 (bnds ⟨a, b, c, d⟩ 0).y0) := p0.cell 1 _ (by rw [HA.out]; rfl)
            have q2 : wr.cell? ⟨w3.heap.size, 2, none⟩ = some (.int .i64 (bnds ⟨a, b, c, d⟩ 0).x1) := p0.cell 2 _ (by rw [HA.out]; rfl)
            have q3 : wr.cell? ⟨w3.heap.size, 3, none⟩ = some (.int .i64 (bnds ⟨a, b, c, d⟩ 0).y1) := p0.cell 3 _ (by rw [HA.out]; rfl)
            have x0 := p1.cell 0 _ rfl
            have x1 := p1.cell 1 _ rfl
            have x2 := p1.cell 2 _ rfl
            have x3 := p1.cell 3 _ rfl
            have f0 := p1.free 0
            have f1 := p1.free 1
            have f2 := p1.free 2
            have f3 := p1.free 3
            have H1 : Hid _ := blkP_rect (bnds ⟨a, b, c, d⟩) _ 0 (by decide) p1
            have H0 : Hid _ := ((((p0.far ⟨W3.heap.size, 0, none⟩ (.int .i64 (bnds ⟨a, b, c, d⟩ 0).x0) (Nat.ne_of_lt hlt3)).far ⟨W3.heap.size, 1, none⟩ (.int .i64 (bnds ⟨a, b, c, d⟩ 0).y0) (Nat.ne_of_lt hlt3)).far ⟨W3.heap.size, 2, none⟩ (.int .i64 (bnds ⟨a, b, c, d⟩ 0).x1) (Nat.ne_of_lt hlt3)).far ⟨W3.heap.size, 3, none⟩ (.int .i64 (bnds ⟨a, b, c, d⟩ 0).y1) (Nat.ne_of_lt hlt3))
            have HB : Hid _ := ((((BP.setCell (p := ⟨W3.heap.size, 0, none⟩) hRB (.int .i64 (bnds ⟨a, b, c, d⟩ 0).x0)).setCell (p := ⟨W3.heap.size, 1, none⟩) hRB (.int .i64 (bnds ⟨a, b, c, d⟩ 0).y0)).setCell (p := ⟨W3.heap.size, 2, none⟩) hRB (.int .i64 (bnds ⟨a, b, c, d⟩ 0).x1)).setCell (p := ⟨W3.heap.size, 3, none⟩) hRB (.int .i64 (bnds ⟨a, b, c, d⟩ 0).y1))
            clear p0 p1 BP
            go_wp2
            go_roundw
            case rel => exact ⟨1, by decide, by go_num, H0.out, H1.out, HB.out⟩
            case measure => simp [intOf]
          · have q0 : wr.cell? ⟨w3.heap.size, 4, none⟩ = some (.int .i64 (bnds ⟨a, b, c, d⟩ 1).x0) := p0.cell 4 _ (by rw [HA.out]; rfl)
            have q1 : wr.cell? ⟨w3.heap.size, 5, none⟩ = some (.int .i64 (bnds ⟨a, b, c, d⟩ 1).y0) := p0.cell 5 _ (by rw [HA.out]; rfl)
            have q2 : wr.cell? ⟨w3.heap.size, 6, none⟩ = some (.int .i64 (bnds ⟨a, b, c, d⟩ 1).x1) := p0.cell 6 _ (by rw [HA.out]; rfl)
            have q3 : wr.cell? ⟨w3.heap.size, 7, none⟩ = some (.int .i64 (bnds ⟨a, b, c, d⟩ 1).y1) := p0.cell 7 _ (by rw [HA.out]; rfl)
            have x0 := p1.cell 5 _ rfl
            have x1 := p1.cell 6 _ rfl
            have x2 := p1.cell 7 _ rfl
            have x3 := p1.cell 8 _ rfl
            have f0 := p1.free 5
            have f1 := p1.free 6
            have f2 := p1.free 7
            have f3 := p1.free 8
            have H1 : Hid _ := blkP_rect (bnds ⟨a, b, c, d⟩) _ 1 (by decide) p1
            have H0 : Hid _ := ((((p0.far ⟨W3.heap.size, 5, none⟩ (.int .i64 (bnds ⟨a, b, c, d⟩ 1).x0) (Nat.ne_of_lt hlt3)).far ⟨W3.heap.size, 6, none⟩ (.int .i64 (bnds ⟨a, b, c, d⟩ 1).y0) (Nat.ne_of_lt hlt3)).far ⟨W3.heap.size, 7, none⟩ (.int .i64 (bnds ⟨a, b, c, d⟩ 1).x1) (Nat.ne_of_lt hlt3)).far ⟨W3.heap.size, 8, none⟩ (.int .i64 (bnds ⟨a, b, c, d⟩ 1).y1) (Nat.ne_of_lt hlt3))
            have HB : Hid _ := ((((BP.setCell (p := ⟨W3.heap.size, 5, none⟩) hRB (.int .i64 (bnds ⟨a, b, c, d⟩ 1).x0)).setCell (p := ⟨W3.heap.size, 6, none⟩) hRB (.int .i64 (bnds ⟨a, b, c, d⟩ 1).y0)).setCell (p := ⟨W3.heap.size, 7, none⟩) hRB (.int .i64 (bnds ⟨a, b, c, d⟩ 1).x1)).setCell (p := ⟨W3.heap.size, 8, none⟩) hRB (.int .i64 (bnds ⟨a, b, c, d⟩ 1).y1))
            clear p0 p1 BP
            go_wp2
            go_roundw
            case rel => exact ⟨2, by decide, by go_num, H0.out, H1.out, HB.out⟩
            case measure => simp [intOf]
          · have q0 : wr.cell? ⟨w3.heap.size, 8, none⟩ = some (.int .i64 (bnds ⟨a, b, c, d⟩ 2).x0) := p0.cell 8 _ (by rw [HA.out]; rfl)
            have q1 : wr.cell? ⟨w3.heap.size, 9, none⟩ = some (.int .i64 (bnds ⟨a, b, c, d⟩ 2).y0) := p0.cell 9 _ (by rw [HA.out]; rfl)
            have q2 : wr.cell? ⟨w3.heap.size, 10, none⟩ = some (.int .i64 (bnds ⟨a, b, c, d⟩ 2).x1) := p0.cell 10 _ (by rw [HA.out]; rfl)
            have q3 : wr.cell? ⟨w3.heap.size, 11, none⟩ = some (.int .i64 (bnds ⟨a, b, c, d⟩ 2).y1) := p0.cell 11 _ (by rw [HA.out]; rfl)
            have x0 := p1.cell 10 _ rfl
            have x1 := p1.cell 11 _ rfl
            have x2 := p1.cell 12 _ rfl
            have x3 := p1.cell 13 _ rfl
            have f0 := p1.free 10
            have f1 := p1.free 11
            have f2 := p1.free 12
            have f3 := p1.free 13
            have H1 : Hid _ := blkP_rect (bnds ⟨a, b, c, d⟩) _ 2 (by decide) p1
            have H0 : Hid _ := ((((p0.far ⟨W3.heap.size, 10, none⟩ (.int .i64 (bnds ⟨a, b, c, d⟩ 2).x0) (Nat.ne_of_lt hlt3)).far ⟨W3.heap.size, 11, none⟩ (.int .i64 (bnds ⟨a, b, c, d⟩ 2).y0) (Nat.ne_of_lt hlt3)).far ⟨W3.heap.size, 12, none⟩ (.int .i64 (bnds ⟨a, b, c, d⟩ 2).x1) (Nat.ne_of_lt hlt3)).far ⟨W3.heap.size, 13, none⟩ (.int .i64 (bnds ⟨a, b, c, d⟩ 2).y1) (Nat.ne_of_lt hlt3))
            have HB : Hid _ := ((((BP.setCell (p := ⟨W3.heap.size, 10, none⟩) hRB (.int .i64 (bnds ⟨a, b, c, d⟩ 2).x0)).setCell (p := ⟨W3.heap.size, 11, none⟩) hRB (.int .i64 (bnds ⟨a, b, c, d⟩ 2).y0)).setCell (p := ⟨W3.heap.size, 12, none⟩) hRB (.int .i64 (bnds ⟨a, b, c, d⟩ 2).x1)).setCell (p := ⟨W3.heap.size, 13, none⟩) hRB (.int .i64 (bnds ⟨a, b, c, d⟩ 2).y1))
            clear p0 p1 BP
            go_wp2
            go_roundw
            case rel => exact ⟨3, by decide, by go_num, H0.out, H1.out, HB.out⟩
            case measure => simp [intOf]
          · have q0 : wr.cell? ⟨w3.heap.size, 12, none⟩ = some (.int .i64 (bnds ⟨a, b, c, d⟩ 3).x0) := p0.cell 12 _ (by rw [HA.out]; rfl)
            have q1 : wr.cell? ⟨w3.heap.size, 13, none⟩ = some (.int .i64 (bnds ⟨a, b, c, d⟩ 3).y0) := p0.cell 13 _ (by rw [HA.out]; rfl)
            have q2 : wr.cell? ⟨w3.heap.size, 14, none⟩ = some (.int .i64 (bnds ⟨a, b, c, d⟩ 3).x1) := p0.cell 14 _ (by rw [HA.out]; rfl)
            have q3 : wr.cell? ⟨w3.heap.size, 15, none⟩ = some (.int .i64 (bnds ⟨a, b, c, d⟩ 3).y1) := p0.cell 15 _ (by rw [HA.out]; rfl)
            have x0 := p1.cell 15 _ rfl
            have x1 := p1.cell 16 _ rfl
            have x2 := p1.cell 17 _ rfl
            have x3 := p1.cell 18 _ rfl
            have f0 := p1.free 15
            have f1 := p1.free 16
            have f2 := p1.free 17
            have f3 := p1.free 18
            have H1 : Hid _ := blkP_rect (bnds ⟨a, b, c, d⟩) _ 3 (by decide) p1
            have H0 : Hid _ := ((((p0.far ⟨W3.heap.size, 15, none⟩ (.int .i64 (bnds ⟨a, b, c, d⟩ 3).x0) (Nat.ne_of_lt hlt3)).far ⟨W3.heap.size, 16, none⟩ (.int .i64 (bnds ⟨a, b, c, d⟩ 3).y0) (Nat.ne_of_lt hlt3)).far ⟨W3.heap.size, 17, none⟩ (.int .i64 (bnds ⟨a, b, c, d⟩ 3).x1) (Nat.ne_of_lt hlt3)).far ⟨W3.heap.size, 18, none⟩ (.int .i64 (bnds ⟨a, b, c, d⟩ 3).y1) (Nat.ne_of_lt hlt3))
            have HB : Hid _ := ((((BP.setCell (p := ⟨W3.heap.size, 15, none⟩) hRB (.int .i64 (bnds ⟨a, b, c, d⟩ 3).x0)).setCell (p := ⟨W3.heap.size, 16, none⟩) hRB (.int .i64 (bnds ⟨a, b, c, d⟩ 3).y0)).setCell (p := ⟨W3.heap.size, 17, none⟩) hRB (.int .i64 (bnds ⟨a, b, c, d⟩ 3).x1)).setCell (p := ⟨W3.heap.size, 18, none⟩) hRB (.int .i64 (bnds ⟨a, b, c, d⟩ 3).y1))
            clear p0 p1 BP
            go_wp2
            go_roundw
            case rel => exact ⟨4, by decide, by go_num, H0.out, H1.out, HB.out⟩
            case measure => simp [intOf]
        · obtain rfl : k = 4 := Nat.le_antisymm hk4 (Nat.le_of_not_lt hlt)
          obtain ⟨W4, rfl⟩ : ∃ W4, W4 = wr := ⟨_, rfl⟩
          clear hk4 hlt
          obtain ⟨P, hP⟩ : ∃ P, P = Ex.cutR n' l y := ⟨_, rfl⟩
          have hPl : P.length = y := by rw [hP]; exact HCl.out
          have hPw : Ex.Wide n' P := hP ▸ hCw
          obtain ⟨D0, hD0⟩ : ∃ L, L = (Ex.lowC b kn (Ex.cntE a n') (Ex.lowR a kn P)).flatten := ⟨_, rfl⟩
          obtain ⟨D1, hD1⟩ : ∃ L, L = (Ex.lowC b kn (Ex.cntO a n') (Ex.highR a kn P)).flatten := ⟨_, rfl⟩
          obtain ⟨D2, hD2⟩ : ∃ L, L = (Ex.highC b kn (Ex.cntE a n') (Ex.lowR a kn P)).flatten := ⟨_, rfl⟩
          obtain ⟨D3, hD3⟩ : ∃ L, L = (Ex.highC b kn (Ex.cntO a n') (Ex.highR a kn P)).flatten := ⟨_, rfl⟩
          have HDs : Hid (D0 = (bandQ a b kn n' (Ex.cutR n' l y) 0).flatten ∧ D1 = (bandQ a b kn n' (Ex.cutR n' l y) 1).flatten ∧ D2 = (bandQ a b kn n' (Ex.cutR n' l y) 2).flatten ∧ D3 = (bandQ a b kn n' (Ex.cutR n' l y) 3).flatten) := by
            rw [← hP]
            exact ⟨hD0, hD1, hD2, hD3⟩
          have ck := Ex.cnt_le (s := a) (n := n')
          obtain ⟨ww1, ww2⟩ := cntO_bd hv hn n4
          have eL : o1 = (Ex.lowR a kn P).flatten := by rw [hP]; exact HL.out
          have eR : o2 = (Ex.highR a kn P).flatten := by rw [hP]; exact HR.out
          have cL := fun (W : World) (hq : HoldsI W s1 o1) => cols_r (Ex.lowR a kn P) (Ex.cntE a n') b kn s1 m1 o1.length y W (by rw [eL]) (by rw [Ex.lowR, List.length_map, hPl]) (Ex.lowR_wide hPw) (Nat.le_trans ck.1 n4) h4 hk b0 b1 (eL ▸ within_mono hwr.1 (by decide)) (eL ▸ hq)
          have cR := fun (W : World) (hq : HoldsI W s2 o2) => cols_r (Ex.highR a kn P) (Ex.cntO a n') b kn s2 m2 o2.length y W (by rw [eR]) (by rw [Ex.highR, List.length_map, hPl]) (Ex.highR_wide hPw) (Nat.le_trans ck.2 n4) h4 hk b0 b1 (eR ▸ within_mono hwr.2 (by decide)) (eR ▸ hq)
          rw [← hD0, ← hD2] at cL
          rw [← hD1, ← hD3] at cR
          clear hD0 hD1 hD2 hD3 hP hPl hPw eL eR ck HL HR HCl hwr hCw
          have q02 : W4.cell? ⟨w3.heap.size, 2, none⟩ = some (.int .i64 (bnds ⟨a, b, c, d⟩ 0).x1) := p0.cell 2 _ (by rw [HA.out]; rfl)
          have q00 : W4.cell? ⟨w3.heap.size, 0, none⟩ = some (.int .i64 (bnds ⟨a, b, c, d⟩ 0).x0) := p0.cell 0 _ (by rw [HA.out]; rfl)
          have yb := (g0.below BP).cell 1 _ rfl
          go_wp2_with fail
          refine (cL W4 (l1.below BP (Nat.le_refl _))).mono ?_
          rintro e w5 ⟨v1, v2, rfl, G1, G2⟩
          obtain ⟨t0, k0, rfl, a0', c0', d0', f0'⟩ := G1.holds
          obtain ⟨t2, k2, rfl, a2', c2', d2', f2'⟩ := G2.holds
          have B5 := below_call BP G1.below
          have p15 := p1.below G1.below
          have p05 := p0.below G1.below
          have e4 := p15.cell 4 _ rfl
          have e14 := p15.cell 14 _ rfl
          have z4 := p15.free 4
          have z14 := p15.free 14
          have hB4 : W3.heap.size < W4.heap.size := p1.lt
          have hS0B : w.heap.size ≠ W3.heap.size := Nat.ne_of_lt (Nat.lt_of_lt_of_le g0.lt hRB)
          have hS1B : (w.heap.size + 1) ≠ W3.heap.size := Nat.ne_of_lt (Nat.lt_of_lt_of_le g1.lt hRB)
          clear q02 q00 yb cL l1 G1 G2
          go_upto_region 22 with fail
          obtain ⟨W6, hW6⟩ : ∃ W6, W6 = (w5.setCell ⟨W3.heap.size, 4, none⟩ (.slice t0 D0.length k0)).setCell ⟨W3.heap.size, 14, none⟩ (.slice t2 D2.length k2) := ⟨_, rfl⟩
          have p16 : Blk W6 W3.heap.size 33 (arrP (upK (bnds ⟨a, b, c, d⟩) 4) (fun i => if i = 2 then (.slice t2 D2.length k2) else if i = 0 then (.slice t0 D0.length k0) else .slice none 0 0)) := by rw [hW6]; exact blkP_data (blkP_data p15 0 (by decide) (.slice t0 D0.length k0)) 2 (by decide) (.slice t2 D2.length k2)
          have r06 : Blk W6 w3.heap.size 24 A := by rw [hW6]; exact (p05.far _ _ (Nat.ne_of_lt hlt3)).far _ _ (Nat.ne_of_lt hlt3)
          have g06 : Blk W6 w.heap.size 30 #[.int .i64 a, .int .i64 b, .int .i64 c, .int .i64 d, .slice s l.length m] := by rw [hW6]; exact ((g0.below B5).far _ _ hS0B).far _ _ hS0B
          have B6 : Below W2.heap.size W2 W6 := by rw [hW6]; exact (B5.setCell (p := ⟨W3.heap.size, 4, none⟩) hRB _).setCell (p := ⟨W3.heap.size, 14, none⟩) hRB _
          have x0 : HoldsI W6 t0 D0 := by rw [hW6]; exact (a0'.farW f0' hB4 _).farW f0' hB4 _
          have x2 : HoldsI W6 t2 D2 := by rw [hW6]; exact (a2'.farW f2' hB4 _).farW f2' hB4 _
          rw [← hW6]
          clear hW6 p15 p05 e4 e14 z4 z14 a0' a2' g0
          have hB6 : W3.heap.size < W6.heap.size := p16.lt
          have q02 : W6.cell? ⟨w3.heap.size, 6, none⟩ = some (.int .i64 (bnds ⟨a, b, c, d⟩ 1).x1) := r06.cell 6 _ (by rw [HA.out]; rfl)
          have q00 : W6.cell? ⟨w3.heap.size, 4, none⟩ = some (.int .i64 (bnds ⟨a, b, c, d⟩ 1).x0) := r06.cell 4 _ (by rw [HA.out]; rfl)
          have yb := g06.cell 1 _ rfl
          go_wp2_with fail
          refine (cR W6 (l2.below B6 (Nat.le_refl _))).mono ?_
          rintro e w7 ⟨v1, v3, rfl, G1, G2⟩
          obtain ⟨t1, k1, rfl, a1', c1', d1', f1'⟩ := G1.holds
          obtain ⟨t3, k3, rfl, a3', c3', d3', f3'⟩ := G2.holds
          have B7 := below_call B6 G1.below
          have p17 := p16.below G1.below
          have e9 := p17.cell 9 _ rfl
          have e19 := p17.cell 19 _ rfl
          have z9 := p17.free 9
          have z19 := p17.free 19
          have HG1 : Hid _ := G1.below
          clear q02 q00 yb cR l2 G1 G2
          go_upto_region 23 with fail
          obtain ⟨W8, hW8⟩ : ∃ W8, W8 = (w7.setCell ⟨W3.heap.size, 9, none⟩ (.slice t1 D1.length k1)).setCell ⟨W3.heap.size, 19, none⟩ (.slice t3 D3.length k3) := ⟨_, rfl⟩
          have p18 : Blk W8 W3.heap.size 33 (arrP (upK (bnds ⟨a, b, c, d⟩) 4) (fun i => if i = 3 then (.slice t3 D3.length k3) else if i = 1 then (.slice t1 D1.length k1) else if i = 2 then (.slice t2 D2.length k2) else if i = 0 then (.slice t0 D0.length k0) else .slice none 0 0)) := by rw [hW8]; exact blkP_data (blkP_data p17 1 (by decide) (.slice t1 D1.length k1)) 3 (by decide) (.slice t3 D3.length k3)
          have g18 : Blk W8 (w.heap.size + 1) 33 (arrP (fun _ => zR) fun _ => .slice none 0 0) := by rw [hW8]; exact ((g1.below B7).far _ _ hS1B).far _ _ hS1B
          have B8 : Below W2.heap.size W2 W8 := by rw [hW8]; exact (B7.setCell (p := ⟨W3.heap.size, 9, none⟩) hRB _).setCell (p := ⟨W3.heap.size, 19, none⟩) hRB _
          have s0 : HoldsI W8 t0 D0 := by rw [hW8]; exact ((x0.call HG1.out).farW f0' hB4 _).farW f0' hB4 _
          have s2' : HoldsI W8 t2 D2 := by rw [hW8]; exact ((x2.call HG1.out).farW f2' hB4 _).farW f2' hB4 _
          have s1' : HoldsI W8 t1 D1 := by rw [hW8]; exact (a1'.farW f1' hB6 _).farW f1' hB6 _
          have s3' : HoldsI W8 t3 D3 := by rw [hW8]; exact (a3'.farW f3' hB6 _).farW f3' hB6 _
          rw [← hW8]
          clear hW8 p17 e9 e19 z9 z19 a1' a3' x0 x2
          obtain ⟨Vf, hVf⟩ : ∃ Vf : Array Value, Vf = arrP (bnds ⟨a, b, c, d⟩) (fun o => if o = 0 then (.slice t0 D0.length k0) else if o = 1 then (.slice t1 D1.length k1) else if o = 2 then (.slice t2 D2.length k2) else (.slice t3 D3.length k3)) := ⟨_, rfl⟩
          have p19 : Blk W8 W3.heap.size 33 Vf := by
            rw [hVf]
            have e : arrP (bnds ⟨a, b, c, d⟩) (fun o => if o = 0 then (.slice t0 D0.length k0) else if o = 1 then (.slice t1 D1.length k1) else if o = 2 then (.slice t2 D2.length k2) else (.slice t3 D3.length k3)) = arrP (upK (bnds ⟨a, b, c, d⟩) 4) (fun i => if i = 3 then (.slice t3 D3.length k3) else if i = 1 then (.slice t1 D1.length k1) else if i = 2 then (.slice t2 D2.length k2) else if i = 0 then (.slice t0 D0.length k0) else .slice none 0 0) := by simp [arrP_get, upK]
            rw [e]
            exact p18
          have hV20 : (Try.prog.info? 33).map (·.size) = some Vf.size := by rw [hVf]; exact info20
          have hVo : Vf.all (·.oneCell') = true := by rw [hVf]; simp [arrP_get, Value.oneCell']
          have HVz : Hid ((arrP (fun _ => zR) fun _ => .slice none 0 0).size = Vf.size) := by rw [hVf]; exact rfl
          have HVf : Hid _ := hVf
          clear p18 hVf
          have BT : Below w.heap.size w W8 := below_call BW2 B8
          have Hs0 : Hid _ := s0
          have Hs1 : Hid _ := s1'
          have Hs2 : Hid _ := s2'
          have Hs3 : Hid _ := s3'
          clear s0 s1' s2' s3'
          go_wp2_with (first | (refine wpList_load_mid rfl 33 (.tmp 15) rfl W3.heap.size 0 rfl Vf.toList _ p19.range Try.underlying33 rfl (by simpa using hV20) ?_) | (refine wpList_store_row rfl 33 (.tmp 4) (.tmp 131) rfl (w.heap.size + 1) Vf rfl rfl 33 _ g18 hV20 HVz.out hVo ?_))
          have hld := run_loadVar_mid (P := Try.prog) (W8.setRow (w.heap.size + 1) Vf) (w.heap.size + 1) 0 33 Vf.toList _ (Blk.range (g18.row Vf)) Try.underlying33 rfl (by simpa using hV20)
          refine bodyPost_ret (v := .tuple #[.agg Vf, .int .i64 0]) ?_ rfl ?_
          · rw [results_cell_tmp rfl]
            simp [asAddr, Result.andThen, hld]
          · obtain ⟨e0, e1, e2, e3⟩ := HDs.out
            subst e0 e1 e2 e3
            refine ⟨fun o => if o = 0 then t0 else if o = 1 then t1 else if o = 2 then t2 else t3, fun o => if o = 0 then k0 else if o = 1 then k1 else if o = 2 then k2 else k3, ?_, ?_, below_row BT (Nat.le_succ _) _⟩
            · rw [HVf.out]
              rfl
            · have u4 : (w.heap.size + 1) < W4.heap.size := Nat.lt_of_lt_of_le g1.lt BP.size
              have u6 : (w.heap.size + 1) < W6.heap.size := Nat.lt_of_lt_of_le g1.lt B6.size
              intro o ho
              rcases lt4 ho with rfl | rfl | rfl | rfl
              · exact ⟨HoldsI.rowW Hs0.out f0' u4 _, c0', d0', f0'.up (below_call BW2 BP)⟩
              · exact ⟨HoldsI.rowW Hs1.out f1' u6 _, c1', d1', f1'.up (below_call BW2 B6)⟩
              · exact ⟨HoldsI.rowW Hs2.out f2' u4 _, c2', d2', f2'.up (below_call BW2 BP)⟩
              · exact ⟨HoldsI.rowW Hs3.out f3' u6 _, c3', d3', f3'.up (below_call BW2 B6)⟩
end Go.Proofs.Ytnfnidgabgdphaa
