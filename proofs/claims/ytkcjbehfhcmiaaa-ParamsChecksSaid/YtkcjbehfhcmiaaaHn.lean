/-
  Layer 23: the plain mathematics of the count of precincts and code blocks: what is counted by columns and rows is what is counted tile by tile. No program in sight.
-/
import Derived.Test.YtkcjbehfhcmiaaaHm
set_option maxRecDepth 100000
namespace Go.Proofs.Ytkcjbehfhcmiaaa
namespace Hp
open Go.RowKit

def gridN (r : Pl.R) (e : Pt) : Int := if emR r = true then 0 else (Pl.cd r.x1 (Pl.pw e.x) - Pl.fd r.x0 (Pl.pw e.x)) * (Pl.cd r.y1 (Pl.pw e.y) - Pl.fd r.y0 (Pl.pw e.y))
theorem grid_cells (r : Pl.R) (e : Pt) : gridN r e = cellsI r.x0 r.x1 (Pl.pw e.x) * cellsI r.y0 r.y1 (Pl.pw e.y) := by
  unfold gridN cellsI
  by_cases h : emR r = true
  · rw [if_pos h]
    rcases Pl.empty_iff.1 h with h | h
    · rw [if_pos h, Int.zero_mul]
    · rw [if_pos h, Int.mul_zero]
  · have h' := Pl.empty_not.1 (show Pl.emptyB r.x0 r.y0 r.x1 r.y1 = false by simpa [emR] using h)
    rw [if_neg h, if_neg (by omega), if_neg (by omega)]
/-- What a sound header's tiles are. -/
structure Tls (h : Hd) : Prop where
  g : Pl.Grid h.a h.b h.c h.d h.tw h.th
  val : Pl.validB h.a h.b h.c h.d = true
  len : (tl h).length = nr h * nc h
  pos : 0 < nc h ∧ 0 < nr h
  few : nr h * nc h ≤ 1024
  at' : ∀ t, t < nr h * nc h → tlN h t = Pl.partN h.a h.b h.c h.d h.tw h.th (nc h) t
theorem cells_eq {a c w : Int} (hw : 1 ≤ w) (h0 : 0 ≤ a) (h : a < c) (h1 : c ≤ 4096) : cellsI a c w = (Pl.nX a c w : Int) := by
  have ax := Pl.axis hw h0 h h1
  have := ax.lt
  rw [cellsI, if_neg (by omega), Pl.nX]
  omega
theorem tls {h : Hd} (hd : hdB h = true) (hm : manyB h = false) : Tls h := by
  simp only [hdB, Bool.and_eq_true, in_iff, Bool.not_eq_true'] at hd
  obtain ⟨hv, he, ⟨⟨tw1, tw2⟩, th1, th2⟩, _⟩ := hd
  obtain ⟨v1, v2, v3, v4, v5, v6⟩ := Pl.valid_iff.1 hv
  obtain ⟨e1, e2⟩ := Pl.empty_not.1 he
  have ex := cells_eq tw1 v1 e1 v3
  have ey := cells_eq th1 v4 e2 v6
  have hm' : ¬ 1024 < cellsI h.a h.c h.tw * cellsI h.b h.d h.th := by simpa [manyB] using hm
  rw [ex, ey, ← Int.natCast_mul] at hm'
  have g : Pl.Grid h.a h.b h.c h.d h.tw h.th := ⟨Pl.axis tw1 v1 e1 v3, Pl.axis th1 v4 e2 v6, e1, e2, tw1, th1⟩
  have hp := g.pos
  have hf : nr h * nc h ≤ 1024 := by unfold nr nc; rw [Nat.mul_comm]; omega
  have et : tl h = Pl.partsN h.a h.b h.c h.d h.tw h.th (nc h) (nr h * nc h) := by
    unfold tl Pl.cellsL
    rw [if_pos ⟨hv, he, tw1, th1, by unfold nr nc at hf; rw [Nat.mul_comm] at hf; omega⟩]
    rfl
  refine ⟨g, hv, by rw [et, Pl.partsN_length], ⟨hp.1, hp.2.1⟩, hf, fun t ht => ?_⟩
  unfold tlN
  rw [et, List.getD_eq_getElem?_getD]
  simp [Pl.partsN, ht]
theorem Tls.rc {h : Hd} (T : Tls h) {t : Nat} (ht : t < nr h * nc h) : t % nc h < nc h ∧ t / nc h < nr h := ⟨Nat.mod_lt _ T.pos.1, Nat.div_lt_of_lt_mul (by rw [Nat.mul_comm]; exact ht)⟩
theorem Tls.part {h : Hd} (T : Tls h) {t : Nat} (ht : t < nr h * nc h) :
    tlN h t = ⟨max h.a ((Pl.fd h.a h.tw + ((t % nc h : Nat) : Int)) * h.tw), max h.b ((Pl.fd h.b h.th + ((t / nc h : Nat) : Int)) * h.th), min h.c ((Pl.fd h.a h.tw + ((t % nc h : Nat) : Int)) * h.tw + h.tw), min h.d ((Pl.fd h.b h.th + ((t / nc h : Nat) : Int)) * h.th + h.th)⟩ := by
  rw [T.at' t ht]
  exact T.g.val ht
theorem Tls.valid {h : Hd} (T : Tls h) {t : Nat} (ht : t < nr h * nc h) : Pl.validB (tlN h t).x0 (tlN h t).y0 (tlN h t).x1 (tlN h t).y1 = true := by
  obtain ⟨v1, v2, v3, v4, v5, v6⟩ := Pl.valid_iff.1 T.val
  obtain ⟨a, b⟩ := T.rc ht
  have hx := T.g.ax
  have hy := T.g.ay
  have nx := Pl.nX_eq hx
  have ny := Pl.nX_eq hy
  have q1 : Pl.fd h.a h.tw + ((t % nc h : Nat) : Int) < Pl.cd h.c h.tw := by have : ((t % nc h : Nat) : Int) < (Pl.nX h.a h.c h.tw : Int) := Int.ofNat_lt.2 a; omega
  have q2 : Pl.fd h.b h.th + ((t / nc h : Nat) : Int) < Pl.cd h.d h.th := by have : ((t / nc h : Nat) : Int) < (Pl.nX h.b h.d h.th : Int) := Int.ofNat_lt.2 b; omega
  have q3 : 0 ≤ ((t % nc h : Nat) : Int) := Int.natCast_nonneg _
  have q4 : 0 ≤ ((t / nc h : Nat) : Int) := Int.natCast_nonneg _
  rw [T.part ht]
  generalize ((t % nc h : Nat) : Int) = ti at *
  generalize ((t / nc h : Nat) : Int) = tj at *
  have p1 := Pl.axis_part hx T.g.hac T.g.hw (i := Pl.fd h.a h.tw + ti) (by omega) q1
  have p2 := Pl.axis_part hy T.g.hbd T.g.hh (i := Pl.fd h.b h.th + tj) (by omega) q2
  refine Pl.valid_iff.2 ⟨?_, ?_, ?_, ?_, ?_, ?_⟩ <;> dsimp only <;> omega

theorem Tls.col {h : Hd} (T : Tls h) {f : Pl.R → Pl.R} (F : Sep f) {t : Nat} (ht : t < nr h * nc h) : (f (tlN h t)).x0 = (f (tlN h (t % nc h))).x0 ∧ (f (tlN h t)).x1 = (f (tlN h (t % nc h))).x1 := by
  obtain ⟨a, b⟩ := T.rc ht
  have hlt : t % nc h < nr h * nc h := Nat.lt_of_lt_of_le a (by have := Nat.mul_le_mul_right (nc h) T.pos.2; omega)
  refine F.x _ _ (T.valid ht) (T.valid hlt) ?_ ?_
  · rw [T.part ht, T.part hlt, Nat.mod_mod]
  · rw [T.part ht, T.part hlt, Nat.mod_mod]
theorem Tls.row {h : Hd} (T : Tls h) {f : Pl.R → Pl.R} (F : Sep f) {t : Nat} (ht : t < nr h * nc h) : (f (tlN h t)).y0 = (f (tlN h (t / nc h * nc h))).y0 ∧ (f (tlN h t)).y1 = (f (tlN h (t / nc h * nc h))).y1 := by
  obtain ⟨a, b⟩ := T.rc ht
  have hlt : t / nc h * nc h < nr h * nc h := (Nat.mul_lt_mul_right T.pos.1).2 b
  refine F.y _ _ (T.valid ht) (T.valid hlt) ?_ ?_
  · rw [T.part ht, T.part hlt, Nat.mul_div_cancel _ T.pos.1]
  · rw [T.part ht, T.part hlt, Nat.mul_div_cancel _ T.pos.1]
theorem xs_get {h : Hd} {f : Pl.R → Pl.R} {e : Int} {i : Nat} (hi : i < nc h) : (xsL h f e).getD i 0 = cellsI (f (tlN h i)).x0 (f (tlN h i)).x1 (Pl.pw e) := by
  rw [List.getD_eq_getElem?_getD]
  simp [xsL, hi]
theorem ys_get {h : Hd} {f : Pl.R → Pl.R} {e : Int} {j : Nat} (hj : j < nr h) : (ysL h f e).getD j 0 = cellsI (f (tlN h (j * nc h))).y0 (f (tlN h (j * nc h))).y1 (Pl.pw e) := by
  rw [List.getD_eq_getElem?_getD]
  simp [ysL, hj]
theorem cellN_eq {h : Hd} (T : Tls h) {f : Pl.R → Pl.R} (F : Sep f) {e : Pt} {t : Nat} (ht : t < nr h * nc h) : cellN h f e t = gridN (f (tlN h t)) e := by
  obtain ⟨a, b⟩ := T.rc ht
  rw [grid_cells, cellN, xs_get a, ys_get b, (T.col F ht).1, (T.col F ht).2, (T.row F ht).1, (T.row F ht).2]
/-- A number of cells is not below 0 and not great. -/
theorem cells_bd {h : Hd} (T : Tls h) {f : Pl.R → Pl.R} (F : Sep f) {e : Int} : (∀ x ∈ xsL h f e, 0 ≤ x ∧ x ≤ 4096) ∧ (∀ y ∈ ysL h f e, 0 ≤ y ∧ y ≤ 4096) := by
  constructor
  · intro x hx
    obtain ⟨i, hi, rfl⟩ := List.mem_map.1 hx
    have hlt : i < nr h * nc h := Nat.lt_of_lt_of_le (List.mem_range.1 hi) (by have := Nat.mul_le_mul_right (nc h) T.pos.2; omega)
    obtain ⟨v1, v2, v3, v4, v5, v6⟩ := Pl.valid_iff.1 (F.v _ (T.valid hlt))
    exact cellsI_nn (Pl.pw_pos _) v1 v3
  · intro x hx
    obtain ⟨i, hi, rfl⟩ := List.mem_map.1 hx
    have hlt : i * nc h < nr h * nc h := (Nat.mul_lt_mul_right T.pos.1).2 (List.mem_range.1 hi)
    obtain ⟨v1, v2, v3, v4, v5, v6⟩ := Pl.valid_iff.1 (F.v _ (T.valid hlt))
    exact cellsI_nn (Pl.pw_pos _) v4 v6
theorem xs_ne {h : Hd} (T : Tls h) {f : Pl.R → Pl.R} {e : Int} : xsL h f e ≠ [] ∧ ysL h f e ≠ [] := by
  have := T.pos
  constructor
  · intro q
    have := congrArg List.length q
    simp [xsL] at this
    omega
  · intro q
    have := congrArg List.length q
    simp [ysL] at this
    omega
/-- The greatest product is that of a tile. -/
theorem most_lt {h : Hd} (T : Tls h) {f : Pl.R → Pl.R} (F : Sep f) {e : Pt} (k : Int) : k < mostI h f e ↔ ∃ t, t < nr h * nc h ∧ k < gridN (f (tlN h t)) e := by
  unfold mostI
  rw [mxL_prod (xs_ne T).1 (xs_ne T).2 (fun x hx => ((cells_bd T F).1 x hx).1) (fun y hy => ((cells_bd T F).2 y hy).1)]
  constructor
  · rintro ⟨x, hx, y, hy, hk⟩
    obtain ⟨i, hi, rfl⟩ := List.mem_map.1 hx
    obtain ⟨j, hj, rfl⟩ := List.mem_map.1 hy
    have hi := List.mem_range.1 hi
    have hj := List.mem_range.1 hj
    have hlt : j * nc h + i < nr h * nc h := by
      have := Nat.mul_le_mul_right (nc h) (show j + 1 ≤ nr h from hj)
      rw [Nat.add_mul, Nat.one_mul] at this
      omega
    have h1 : (j * nc h + i) % nc h = i := by rw [Nat.mul_comm, Nat.mul_add_mod]; exact Nat.mod_eq_of_lt hi
    have h2 : (j * nc h + i) / nc h = j := by rw [Nat.mul_comm, Nat.mul_add_div (by omega), Nat.div_eq_of_lt hi]; omega
    refine ⟨_, hlt, ?_⟩
    rw [← cellN_eq T F hlt, cellN, h1, h2, xs_get hi, ys_get hj]
    exact hk
  · rintro ⟨t, ht, hk⟩
    obtain ⟨a, b⟩ := T.rc ht
    rw [← cellN_eq T F ht, cellN, xs_get a, ys_get b] at hk
    exact ⟨_, List.mem_map.2 ⟨_, List.mem_range.2 a, rfl⟩, _, List.mem_map.2 ⟨_, List.mem_range.2 b, rfl⟩, hk⟩
/-- What is added for one resolution, one component, all components. -/
def gResI (p : Ps) (c : Cm) (t : Pl.R) (n : Int) (res : Nat) : Int := n + gridN (fRes p res c t) (precM p res)
def gComI (p : Ps) (t : Pl.R) (n : Int) (c : Cm) : Int := (List.range (p.lev + 1).toNat).foldl (gResI p c t) n
def pkM (h : Hd) (p : Ps) (t : Pl.R) : Int := h.cs.foldl (gComI p t) 0
theorem addL_len (xs ys : List Int) (n : Nat) (l : List Int) : (addL xs ys n l).length = l.length := by simp [addL]
theorem addL_get (xs ys : List Int) (n : Nat) (l : List Int) {t : Nat} (ht : t < l.length) : (addL xs ys n l).getD t 0 = l.getD t 0 + xs.getD (t % n) 0 * ys.getD (t / n) 0 := by
  rw [List.getD_eq_getElem?_getD (l := addL xs ys n l)]
  simp [addL, ht]
theorem res_fold {h : Hd} {p : Ps} {c : Cm} (T : Tls h) (hc : (1 ≤ c.dx ∧ c.dx ≤ 4096) ∧ 1 ≤ c.dy ∧ c.dy ≤ 4096) : ∀ (L : List Nat) (l : List Int), l.length = nr h * nc h → (L.foldl (resM h p c) l).length = nr h * nc h ∧ ∀ t, t < nr h * nc h → (L.foldl (resM h p c) l).getD t 0 = L.foldl (gResI p c (tlN h t)) (l.getD t 0)
  | [], l, hl => ⟨hl, fun _ _ => rfl⟩
  | r :: L, l, hl => by
    have ih := res_fold (p := p) T hc L (resM h p c l r) (by rw [resM, addL_len, hl])
    refine ⟨ih.1, fun t ht => ?_⟩
    rw [List.foldl_cons, List.foldl_cons, ih.2 t ht]
    congr 1
    rw [resM, addL_get _ _ _ _ (by omega)]
    have := cellN_eq T (f := fRes p r c) ((sep_smp hc.1 hc.2).comp sep_res) (e := precM p r) ht
    rw [cellN] at this
    rw [this]
    rfl
theorem com_fold {h : Hd} {p : Ps} (T : Tls h) : ∀ (L : List Cm) (l : List Int), (∀ c ∈ L, (1 ≤ c.dx ∧ c.dx ≤ 4096) ∧ 1 ≤ c.dy ∧ c.dy ≤ 4096) → l.length = nr h * nc h → (L.foldl (comM h p) l).length = nr h * nc h ∧ ∀ t, t < nr h * nc h → (L.foldl (comM h p) l).getD t 0 = L.foldl (gComI p (tlN h t)) (l.getD t 0)
  | [], l, _, hl => ⟨hl, fun _ _ => rfl⟩
  | c :: L, l, hc, hl => by
    have h1 := res_fold (p := p) T (hc c List.mem_cons_self) (List.range (p.lev + 1).toNat) l hl
    have ih := com_fold (p := p) T L (comM h p l c) (fun c' h' => hc c' (List.mem_cons_of_mem _ h')) h1.1
    refine ⟨ih.1, fun t ht => ?_⟩
    rw [List.foldl_cons, List.foldl_cons, ih.2 t ht]
    congr 1
    exact h1.2 t ht
theorem tot_get {h : Hd} {p : Ps} (T : Tls h) (hc : ∀ c ∈ h.cs, (1 ≤ c.dx ∧ c.dx ≤ 4096) ∧ 1 ≤ c.dy ∧ c.dy ≤ 4096) : (totM h p).length = nr h * nc h ∧ ∀ t, t < nr h * nc h → (totM h p).getD t 0 = pkM h p (tlN h t) := by
  have := com_fold (p := p) T h.cs (List.replicate (tl h).length 0) hc (by rw [List.length_replicate, T.len])
  refine ⟨this.1, fun t ht => ?_⟩
  unfold totM pkM
  rw [this.2 t ht]
  congr 1
  rw [List.getD_eq_getElem?_getD, List.getElem?_replicate]
  split <;> rfl
end Hp
end Go.Proofs.Ytkcjbehfhcmiaaa
