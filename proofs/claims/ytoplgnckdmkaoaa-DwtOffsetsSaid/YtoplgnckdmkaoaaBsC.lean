/-
  Layers 1 to 5, the base: PlnG, PlnH, PlnI, PlnJ of one piece.
-/
import Derived.Test.YtoplgnckdmkaoaaBsB
import Derived.Deep.DeepCutAuto
import Derived.WalkSpells
set_option maxRecDepth 100000
namespace Go.Proofs.Ytoplgnckdmkaoaa
open Go.RowKit

/-- A block that is a row of integers, and room behind them. -/
def RowP (w : World) (g : Nat) (l : List Int) (pad : List Value) : Prop := w.heap[g]? = some (.cells (l.map (Value.int .i64) ++ pad).toArray 3 (0, 0))
theorem RowP.lt {w : World} {g : Nat} {l : List Int} {pad : List Value} (h : RowP w g l pad) : g < w.heap.size := by
  unfold RowP at h
  exact (Array.getElem?_eq_some_iff.1 h).1
theorem RowP.holds {w : World} {g : Nat} {l : List Int} {pad : List Value} (h : RowP w g l pad) : HoldsI w (some ⟨g, 0, none⟩) l := by
  refine .inr ⟨g, 0, rfl, fun k hk => ?_⟩
  unfold RowP at h
  have e : (List.map (Value.int .i64) l ++ pad)[k]? = some (.int .i64 l[k]) := by rw [List.getElem?_append_left (by simpa using hk)]; simp [hk]
  simp [World.cell?, h, e]
theorem RowP.belowAt {B : Nat} {w w1 : World} {g : Nat} {l : List Int} {pad : List Value} (h : RowP w g l pad) (hb : Below B w w1) (hg : g < B) : RowP w1 g l pad := (hb.block g hg).trans h
theorem RowP.below {w w1 : World} {g : Nat} {l : List Int} {pad : List Value} (h : RowP w g l pad) (hb : Below w.heap.size w w1) : RowP w1 g l pad := h.belowAt hb h.lt
theorem RowP.of {w : World} {g : Nat} {l : List Int} (h : RowAt w g l) : RowP w g l [] := by
  unfold RowP; rw [List.append_nil]; exact h
theorem RowP.out {w : World} {g : Nat} {l : List Int} (h : RowP w g l []) : RowAt w g l := by
  unfold RowP at h; rw [List.append_nil] at h; exact h
/-- All blocks but one are as they were. -/
structure But (g : Nat) (w w' : World) : Prop where
  os : w'.os = w.os
  tape : w'.tape = w.tape
  output : w'.output = w.output
  size : w.heap.size ≤ w'.heap.size
  block : ∀ k, k < w.heap.size → k ≠ g → w'.heap[k]? = w.heap[k]?
theorem But.of {g : Nat} {w w1 : World} (h : Below w.heap.size w w1) : But g w w1 := ⟨h.os, h.tape, h.output, h.size, fun k hk _ => h.block k hk⟩
theorem But.step {g : Nat} {w w1 w2 : World} (h : But g w w1) (hb : Below w1.heap.size w1 w2) : But g w w2 :=
  ⟨hb.os.trans h.os, hb.tape.trans h.tape, hb.output.trans h.output, Nat.le_trans h.size hb.size, fun k hk hn => (hb.block k (Nat.lt_of_lt_of_le hk h.size)).trans (h.block k hk hn)⟩
theorem But.trans {g : Nat} {w w1 w2 : World} (h : But g w w1) (h2 : But g w1 w2) : But g w w2 :=
  ⟨h2.os.trans h.os, h2.tape.trans h.tape, h2.output.trans h.output, Nat.le_trans h.size h2.size, fun k hk hn => (h2.block k (Nat.lt_of_lt_of_le hk h.size) hn).trans (h.block k hk hn)⟩
theorem But.below {g : Nat} {w w1 w2 : World} (h : Below w.heap.size w w1) (h2 : But g w1 w2) (hg : w.heap.size ≤ g) : Below w.heap.size w w2 :=
  ⟨h2.os.trans h.os, h2.tape.trans h.tape, h2.output.trans h.output, Nat.le_trans h.size h2.size, fun k hk => (h2.block k (Nat.lt_of_lt_of_le hk h.size) (by omega)).trans (h.block k hk)⟩
theorem But.setRow {g : Nat} {w : World} (cs : Array Value) : But g w (w.setRow g cs) :=
  ⟨rfl, rfl, rfl, by simp [World.setRow], fun k _ hn => setRow_other w g k cs hn⟩
theorem But.cell {g : Nat} {w w1 : World} (h : But g w w1) {p : Addr} (hp : p.block < w.heap.size) (hn : p.block ≠ g) : w1.cell? p = w.cell? p := World.cell?_of_block (h.block _ hp hn)
theorem But.frozen {g : Nat} {w w1 : World} (h : But g w w1) {p : Addr} (hp : p.block < w.heap.size) (hn : p.block ≠ g) : w1.frozen? p = w.frozen? p := World.frozen?_of_block (h.block _ hp hn)
theorem QBox.but {g : Nat} {W w1 : World} {B : Nat} {r : Pl.R} {v : Value} (h : QBox W B r v) (hb : But g W w1) (hN : B ≠ g) : QBox w1 B r v :=
  ⟨⟨(hb.cell (p := ⟨B, _, none⟩) h.lt hN).trans h.cells.1, (hb.cell (p := ⟨B, _, none⟩) h.lt hN).trans h.cells.2.1, (hb.cell (p := ⟨B, _, none⟩) h.lt hN).trans h.cells.2.2.1, (hb.cell (p := ⟨B, _, none⟩) h.lt hN).trans h.cells.2.2.2⟩, (hb.cell (p := ⟨B, _, none⟩) h.lt hN).trans h.data, fun j => (hb.frozen (p := ⟨B, j, none⟩) h.lt hN).trans (h.free j), by have := h.lt; have := hb.size; omega⟩
theorem Box.but {g : Nat} {W w1 : World} {B : Nat} {r : Pl.R} (h : Box W B r) (hb : But g W w1) (hN : B ≠ g) : Box w1 B r :=
  ⟨⟨(hb.cell (p := ⟨B, _, none⟩) h.lt hN).trans h.cells.1, (hb.cell (p := ⟨B, _, none⟩) h.lt hN).trans h.cells.2.1, (hb.cell (p := ⟨B, _, none⟩) h.lt hN).trans h.cells.2.2.1, (hb.cell (p := ⟨B, _, none⟩) h.lt hN).trans h.cells.2.2.2⟩, fun j => (hb.frozen (p := ⟨B, j, none⟩) h.lt hN).trans (h.free j), by have := h.lt; have := hb.size; omega⟩
theorem HoldsI.but {g : Nat} {w w1 : World} {a : Option Addr} {l : List Int} (h : HoldsI w a l) (hb : But g w w1) (hn : ∀ p, a = some p → p.block ≠ g) : HoldsI w1 a l := by
  rcases h with rfl | ⟨b, off, rfl, hr⟩
  · exact .inl rfl
  · exact .inr ⟨b, off, rfl, fun k hk => (hb.cell (p := ⟨b, off + k, none⟩) (cell_lt (hr k hk)) (hn ⟨b, off, none⟩ rfl)).trans (hr k hk)⟩
/-- What overlay knows at each place. -/
structure Ov (r q e : Pl.R) (v2 v3 : Value) (g B : Nat) (cur : List Int) (pad : List Value) (w W : World) : Prop where
  but : But g w W
  p2 : QBox W w.heap.size r v2
  p3 : QBox W (w.heap.size + 1) q v3
  p4 : Box W B e
  row : RowP W g cur pad
  glt : g < w.heap.size
  blt : w.heap.size < B
theorem Ov.step {r q e : Pl.R} {v2 v3 : Value} {g B : Nat} {cur : List Int} {pad : List Value} {w W W1 : World} (h : Ov r q e v2 v3 g B cur pad w W) (hb : Below W.heap.size W W1) : Ov r q e v2 v3 g B cur pad w W1 :=
  ⟨h.but.step hb, h.p2.below hb, h.p3.below hb, h.p4.below hb, h.row.below hb, h.glt, h.blt⟩
structure OvF (r q e : Pl.R) (v2 v3 : Value) (g B : Nat) (cur : List Int) (pad : List Value) (w : World) where
  W : World
  ok : Ov r q e v2 v3 g B cur pad w W
/-- The list behind some rows. -/
def ovG (r : Pl.R) (l : List Int) (q : Pl.R) (k : List Int) (Y : Int) (x y : Int) : Int := if Pl.hasB q.x0 q.y0 q.x1 q.y1 x y = true ∧ y < Y then gv q k x y else gv r l x y
theorem splice_pad (L : List Int) (pad : List Value) (off : Nat) (cs : List Int) (h : off + cs.length ≤ L.length) :
    splice (L.map (Value.int .i64) ++ pad) off (cs.map (Value.int .i64)) = (splice L off cs).map (Value.int .i64) ++ pad := by
  unfold splice
  rw [List.take_append_of_le_length (by simp; omega), List.drop_append_of_le_length (by simp; omega)]
  simp [List.map_take, List.map_drop]
theorem nat3 {a e x : Int} (h1 : a ≤ e) (h2 : e ≤ x) : (x - a).toNat - (e - a).toNat = (x - e).toNat := by omega
theorem nat4 {a e x : Int} (h1 : a ≤ e) (h2 : e ≤ x) : (e - a).toNat + (x - e).toNat = (x - a).toNat := by omega
theorem nat5 {e x g : Int} (h1 : e ≤ x) (h2 : x < g) : (x - e).toNat < (g - e).toNat := by omega
set_option maxHeartbeats 1000000 in
/-- One row is laid over. -/
theorem ov_next {a b c d a' b' c' d' e f g h Y : Int} {l k : List Int} (_hp : pvB a b c d l.length = true) (hq : pvB a' b' c' d' k.length = true)
    (he : e = max a a') (hf : f = max b b') (hg : g = min c c') (hh : h = min d d') (heg : e < g) (hY0 : f ≤ Y) (hY : Y < h) :
    splice (tabL ⟨a, b, c, d⟩ (ovG ⟨a, b, c, d⟩ l ⟨a', b', c', d'⟩ k Y)) (idx a b c e Y).toNat ((k.drop (idx a' b' c' e Y).toNat).take (g - e).toNat) = tabL ⟨a, b, c, d⟩ (ovG ⟨a, b, c, d⟩ l ⟨a', b', c', d'⟩ k (Y + 1)) := by
  have ea : a ≤ e := by omega
  have ea' : a' ≤ e := by omega
  have gc : g ≤ c := by omega
  have gc' : g ≤ c' := by omega
  have fb : b ≤ f := by omega
  have fb' : b' ≤ f := by omega
  have hd0 : h ≤ d := by omega
  have hd0' : h ≤ d' := by omega
  have hxe : ∀ x, a ≤ x → a' ≤ x → e ≤ x := fun x _ _ => by omega
  have hxg : ∀ x, x < c → x < c' → x < g := fun x _ _ => by omega
  clear he hf hg hh
  have hrE : Pl.hasB a b c d e Y = true := Pl.has_iff.2 ⟨by omega, by omega, by omega, by omega⟩
  have hqE : Pl.hasB a' b' c' d' e Y = true := Pl.has_iff.2 ⟨by omega, by omega, by omega, by omega⟩
  have hrG : Pl.hasB a b c d (g - 1) Y = true := Pl.has_iff.2 ⟨by omega, by omega, by omega, by omega⟩
  have hqG : Pl.hasB a' b' c' d' (g - 1) Y = true := Pl.has_iff.2 ⟨by omega, by omega, by omega, by omega⟩
  have i1 := (idx_nat hrE).1
  have i2 := (idx_nat hqE).1
  have i3 := (idx_nat hrG).1
  have i4 := (idx_nat hqG).1
  have j3 := idx_lt' hrG
  have j4 := idx_lt' hqG
  have hk := pv_len hq
  have t1 : (idx a b c e Y).toNat + (g - e).toNat = (idx a b c (g - 1) Y).toNat + 1 := by rw [i1, i3]; clear j3 j4 hk i2 i4; omega
  have t2 : (idx a' b' c' e Y).toNat + (g - e).toNat = (idx a' b' c' (g - 1) Y).toNat + 1 := by rw [i2, i4]; clear j3 j4 hk i1 i3; omega
  have hcs : ((k.drop (idx a' b' c' e Y).toNat).take (g - e).toNat).length = (g - e).toNat := by rw [List.length_take, List.length_drop]; clear i1 i2 i3 i4 t1 j3; omega
  have hfit : (idx a b c e Y).toNat + ((k.drop (idx a' b' c' e Y).toNat).take (g - e).toNat).length ≤ (tabL ⟨a, b, c, d⟩ (ovG ⟨a, b, c, d⟩ l ⟨a', b', c', d'⟩ k Y)).length := by
    rw [hcs, tabL_len]; dsimp only; clear i1 i2 i3 i4 t2 j4 hk; omega
  refine tab_ext (a := a) (b := b) (c := c) (d := d) ?_ tabL_len fun x y hxy => ?_
  · rw [length_splice _ _ _ hfit, tabL_len]
  rw [tabL_gv hxy]
  obtain ⟨ix, lx, ly⟩ := idx_nat hxy
  obtain ⟨x1, x2, y1, y2⟩ := Pl.has_iff.1 hxy
  have key : ((idx a b c e Y).toNat ≤ (idx a b c x y).toNat ∧ (idx a b c x y).toNat < (idx a b c e Y).toNat + (g - e).toNat) ↔ (y = Y ∧ e ≤ x ∧ x < g) := by
    have m1 : y < Y → (y - b).toNat * (c - a).toNat + (c - a).toNat ≤ (Y - b).toNat * (c - a).toNat := fun hlt => by
      have := Nat.mul_le_mul_right (c - a).toNat (show (y - b).toNat + 1 ≤ (Y - b).toNat by omega)
      rw [Nat.add_mul, Nat.one_mul] at this
      exact this
    have m2 : Y < y → (Y - b).toNat * (c - a).toNat + (c - a).toNat ≤ (y - b).toNat * (c - a).toNat := fun hlt => by
      have := Nat.mul_le_mul_right (c - a).toNat (show (Y - b).toNat + 1 ≤ (y - b).toNat by omega)
      rw [Nat.add_mul, Nat.one_mul] at this
      exact this
    clear j3 j4 hk t1 t2 hcs hfit i2 i3 i4 hxe hxg hq
    rw [i1, ix]
    rcases Int.lt_trichotomy y Y with hlt | rfl | hlt
    · have := m1 hlt; omega
    · omega
    · have := m2 hlt; omega
  have hgv : gv ⟨a, b, c, d⟩ (splice (tabL ⟨a, b, c, d⟩ (ovG ⟨a, b, c, d⟩ l ⟨a', b', c', d'⟩ k Y)) (idx a b c e Y).toNat ((k.drop (idx a' b' c' e Y).toNat).take (g - e).toNat)) x y =
      (if (y = Y ∧ e ≤ x ∧ x < g) then gv ⟨a', b', c', d'⟩ k x y else gv ⟨a, b, c, d⟩ (tabL ⟨a, b, c, d⟩ (ovG ⟨a, b, c, d⟩ l ⟨a', b', c', d'⟩ k Y)) x y) := by
    by_cases hk2 : y = Y ∧ e ≤ x ∧ x < g
    · have hk3 := key.2 hk2
      obtain ⟨rfl, q1, q2⟩ := hk2
      rw [if_pos ⟨rfl, q1, q2⟩, gv, gv, List.getD_eq_getElem?_getD, List.getD_eq_getElem?_getD, splice_at _ _ _ hfit, hcs, if_pos hk3]
      have hqx : Pl.hasB a' b' c' d' x y = true := Pl.has_iff.2 ⟨Int.le_trans ea' q1, Int.lt_of_lt_of_le q2 gc', Int.le_trans fb' hY0, Int.lt_of_lt_of_le hY hd0'⟩
      have i5 := (idx_nat hqx).1
      have t3 : (idx a b c x y).toNat - (idx a b c e y).toNat = (x - e).toNat := by rw [ix, i1, Nat.add_sub_add_left]; exact nat3 ea q1
      have t4 : (idx a' b' c' e y).toNat + (x - e).toNat = (idx a' b' c' x y).toNat := by rw [i2, i5, Nat.add_assoc, nat4 ea' q1]
      dsimp only
      rw [t3, List.getElem?_take_of_lt (nat5 q1 q2), List.getElem?_drop, t4]
    · rw [if_neg hk2, gv, gv, List.getD_eq_getElem?_getD, List.getD_eq_getElem?_getD, splice_at _ _ _ hfit, hcs, if_neg (fun hh => hk2 (key.1 hh))]
  rw [hgv, tabL_gv hxy]
  clear hgv key i1 i2 i3 i4 j3 j4 hk t1 t2 hcs hfit ix hrE hqE hrG hqG
  unfold ovG
  by_cases hk2 : y = Y ∧ e ≤ x ∧ x < g
  · have hz : Pl.hasB a' b' c' d' x y = true := Pl.has_iff.2 ⟨by omega, by omega, by omega, by omega⟩
    rw [if_pos hk2, if_pos ⟨hz, by omega⟩]
  · rw [if_neg hk2]
    by_cases hq2 : Pl.hasB a' b' c' d' x y = true ∧ y < Y
    · rw [if_pos hq2, if_pos ⟨hq2.1, by omega⟩]
    · rw [if_neg hq2, if_neg]
      rintro ⟨hq3, hy3⟩
      have hq4 := Pl.has_iff.1 hq3
      by_cases hyY : y < Y
      · exact hq2 ⟨hq3, hyY⟩
      · exact hk2 ⟨by omega, hxe x x1 hq4.1, hxg x x2 hq4.2.1⟩
/-- One step of a region that draws its order: copy into a row that is known whole; every other block stays. -/
theorem step_copy_but {P : Program} {ops : Array Oper} {o : Oper} {act : Act} {w : World} {K : Act → World → Prop} {Q : Exit → Act → World → Prop} {E : Prop} (hgd : o.guard = none) (x y : Operand) (dT sT : TypeId)
    (ho : o.op = .call { callee := .builtin .copy, args := #[x, y], argTypes := #[dT, sT] }) (elem : TypeId) (hu : P.underlying dT = some (.slice elem)) (hsz : (P.info? elem).map (·.size) = some 1)
    (g off dLen dCap : Nat) (ad : Addr) (sLen sCap : Nat) (hx : act.eval x = .slice (some ⟨g, off, none⟩) dLen dCap) (hy : act.eval y = .slice (some ad) sLen sCap)
    (cur : List Value) (t : TypeId) (hg : w.heap[g]? = some (.cells cur.toArray t (0, 0))) (cs : List Value) (hn : cs.length = Nat.min sLen dLen)
    (hsrc : ∀ j v, cs[j]? = some v → w.cell? (ad.add j) = some v) (hfit : off + cs.length ≤ cur.length) (h1 : ∀ v ∈ cs, v.oneCell' = true)
    (h : ∀ w', Hid (w'.heap[g]? = some (.cells (splice cur off cs).toArray t (0, 0))) → But g w w' → K (act.put o.dst (goInt cs.length)) w') :
    if Region.wanted o (yielded ops act.tmps) = true then Oper.wp P o act w K Q else E := by
  have hw : Region.wanted o (yielded ops act.tmps) = true := by simp [Region.wanted, hgd]
  have hrun := run_copy_row (P := P) w dT sT o.type elem g off dLen dCap ad sLen sCap cur.toArray t cs hu hsz hg hn hsrc (by simpa using hfit) h1
  rw [if_pos hw]
  unfold Oper.wp
  simp [execOp, ho, resolve, invoke, builtin, hx, hy, hrun, Result.andThen]
  refine h _ (show _ = _ from ?_) (But.setRow _)
  have := setRow_heap w g _ (splice cur off cs).toArray t _ hg
  simpa [splice] using this
/-- A row's part lies in the list. -/
theorem ov_fit {a b c d e u Y : Int} {l : List Int} (hp : pvB a b c d l.length = true) (h1 : a ≤ e) (h2 : e < u) (h3 : u ≤ c) (h4 : b ≤ Y) (h5 : Y < d) : (idx a b c e Y).toNat + (u - e).toNat ≤ l.length := by
  have hE : Pl.hasB a b c d e Y = true := Pl.has_iff.2 ⟨by omega, by omega, by omega, by omega⟩
  have hG : Pl.hasB a b c d (u - 1) Y = true := Pl.has_iff.2 ⟨by omega, by omega, by omega, by omega⟩
  have i1 := (idx_nat hE).1
  have i3 := (idx_nat hG).1
  have j3 := idx_lt' hG
  have t1 : (idx a b c e Y).toNat + (u - e).toNat = (idx a b c (u - 1) Y).toNat + 1 := by rw [i1, i3]; clear j3; omega
  have := pv_len hp
  clear i1 i3
  omega
theorem ov_start {a b c d a' b' c' d' f : Int} {l k : List Int} (hp : pvB a b c d l.length = true) (hf : f = max b b') : tabL ⟨a, b, c, d⟩ (ovG ⟨a, b, c, d⟩ l ⟨a', b', c', d'⟩ k f) = l := by
  rw [← tabL_self (pv_len hp)]
  refine tabL_congr fun x y hxy => ?_
  rw [tabL_self (pv_len hp), ovG, if_neg]
  rintro ⟨h1, h2⟩
  have := Pl.has_iff.1 h1
  have := Pl.has_iff.1 hxy
  dsimp only at *
  omega
theorem ov_end {a b c d a' b' c' d' h : Int} {l k : List Int} (hh : h = min d d') : tabL ⟨a, b, c, d⟩ (ovG ⟨a, b, c, d⟩ l ⟨a', b', c', d'⟩ k h) = pasteL ⟨a, b, c, d⟩ l ⟨a', b', c', d'⟩ k := by
  refine tabL_congr fun x y hxy => ?_
  unfold ovG ovF
  by_cases h1 : Pl.hasB a' b' c' d' x y = true
  · have h2 := Pl.has_iff.1 h1
    have h3 := Pl.has_iff.1 hxy
    rw [if_pos h1, if_pos ⟨h1, by omega⟩]
  · rw [if_neg h1, if_neg (fun hh => h1 hh.1)]
end Go.Proofs.Ytoplgnckdmkaoaa

namespace Go.Proofs.Ytoplgnckdmkaoaa
open Go.RowKit

set_option maxRecDepth 100000 in
set_option maxHeartbeats 1000000 in
theorem over_no (a b c d a' b' c' d' : Int) (t s : Option Addr) (m m' : Nat) (l k : List Int) (w : World) (he : Pl.emptyB (max a a') (max b b') (min c c') (min d d') = true) :
    Calls Try.prog 107 #[.agg #[.int .i64 a, .int .i64 b, .int .i64 c, .int .i64 d, .slice t l.length m], .agg #[.int .i64 a', .int .i64 b', .int .i64 c', .int .i64 d', .slice s k.length m']] w fun e w' => e = .returned (.tuple #[]) ∧ Below w.heap.size w w' := by
  have hI : Pl.isec a b c d a' b' c' d' = ⟨0, 0, 0, 0⟩ := by unfold Pl.isec; rw [if_pos he]
  have hic := fun w => isec_c a b c d a' b' c' d' w
  rw [hI] at hic
  have y0 : QBox ((w.alloc (.cells #[.int .i64 a, .int .i64 b, .int .i64 c, .int .i64 d, .slice t l.length m] 26)).alloc (.cells #[.int .i64 a', .int .i64 b', .int .i64 c', .int .i64 d', .slice s k.length m'] 26)) w.heap.size ⟨a, b, c, d⟩ (.slice t l.length m) := (QBox.fresh w a b c d t l.length m 26).alloc _
  have z0 : QBox ((w.alloc (.cells #[.int .i64 a, .int .i64 b, .int .i64 c, .int .i64 d, .slice t l.length m] 26)).alloc (.cells #[.int .i64 a', .int .i64 b', .int .i64 c', .int .i64 d', .slice s k.length m'] 26)) (w.heap.size + 1) ⟨a', b', c', d'⟩ (.slice s k.length m') := QBox.freshAt (w.alloc (.cells #[.int .i64 a, .int .i64 b, .int .i64 c, .int .i64 d, .slice t l.length m] 26)) (w.heap.size + 1) (by simp) a' b' c' d' s k.length m' 26
  have B0 : Below w.heap.size w ((w.alloc (.cells #[.int .i64 a, .int .i64 b, .int .i64 c, .int .i64 d, .slice t l.length m] 26)).alloc (.cells #[.int .i64 a', .int .i64 b', .int .i64 c', .int .i64 d', .slice s k.length m'] 26)) := ((Below.refl _ _).alloc (Nat.le_refl _) _).alloc (by simp) _
  go_enter Try.func107, Try.ntmps107
  go_wp2_with fail
  refine (hic _).mono ?_
  rintro e w1 ⟨rfl, hb1⟩
  have B1 : Below w.heap.size w w1 := bcall B0 hb1 (by simp; omega)
  have hlt : w.heap.size ≤ w1.heap.size := B1.size
  go_wp2_with fail
  have x1 : Box (w1.alloc (.cells #[.int .i64 0, .int .i64 0, .int .i64 0, .int .i64 0] 23)) w1.heap.size ⟨0, 0, 0, 0⟩ := Box.fresh w1 0 0 0 0 23
  have B2 : Below w.heap.size w (w1.alloc (.cells #[.int .i64 0, .int .i64 0, .int .i64 0, .int .i64 0] 23)) := B1.alloc hlt _
  clear hb1 y0 z0 B0
  go_loopw [6] (fun i wr => i = .int .i64 0 ∧ Below w.heap.size w wr ∧ Box wr w1.heap.size ⟨0, 0, 0, 0⟩) (fun _ _ => 0)
  case atStart => exact ⟨rfl, B2, x1⟩
  case round =>
    obtain ⟨rfl, B3, x3⟩ := hrel
    obtain ⟨c0, c1, c2, c3⟩ := x3.open
    go_wp2
    go_end0
    exact ⟨rfl, B3⟩
set_option maxRecDepth 100000 in
set_option maxHeartbeats 1000000 in
theorem over_yes (a b c d a' b' c' d' e f u h : Int) (g : Nat) (s : Option Addr) (m m' : Nat) (l k : List Int) (pad : List Value) (w : World)
    (hp : pvB a b c d l.length = true) (hq : pvB a' b' c' d' k.length = true) (he : e = max a a') (hf : f = max b b') (hu : u = min c c') (hh : h = min d d') (heu : e < u) (hfh : f < h)
    (hm : l.length ≤ m) (hm' : k.length ≤ m') (hrow : RowP w g l pad) (hH : HoldsI w s k) (hs : ∀ p, s = some p → p.block ≠ g) :
    Calls Try.prog 107 #[.agg #[.int .i64 a, .int .i64 b, .int .i64 c, .int .i64 d, .slice (some ⟨g, 0, none⟩) l.length m], .agg #[.int .i64 a', .int .i64 b', .int .i64 c', .int .i64 d', .slice s k.length m']] w fun e w' => e = .returned (.tuple #[]) ∧ But g w w' ∧ RowP w' g (pasteL ⟨a, b, c, d⟩ l ⟨a', b', c', d'⟩ k) pad := by
  have hI : Pl.isec a b c d a' b' c' d' = ⟨e, f, u, h⟩ := by
    unfold Pl.isec
    rw [if_neg, he, hf, hu, hh]
    rw [Bool.not_eq_true, Pl.empty_not, ← he, ← hf, ← hu, ← hh]
    exact ⟨heu, hfh⟩
  have hic := fun w => isec_c a b c d a' b' c' d' w
  rw [hI] at hic
  obtain ⟨hv, _, hn⟩ := pv_iff.1 hp
  obtain ⟨v1, v2, v3, v4, v5, v6⟩ := Pl.valid_iff.1 hv
  obtain ⟨hv', _, hn'⟩ := pv_iff.1 hq
  obtain ⟨v1', v2', v3', v4', v5', v6'⟩ := Pl.valid_iff.1 hv'
  have ea : a ≤ e := by omega
  have ea' : a' ≤ e := by omega
  have gc : u ≤ c := by omega
  have gc' : u ≤ c' := by omega
  have fb : b ≤ f := by omega
  have fb' : b' ≤ f := by omega
  have hd0 : h ≤ d := by omega
  have hd0' : h ≤ d' := by omega
  have hstart := ov_start (a := a) (c := c) (d := d) (a' := a') (c' := c') (d' := d') (k := k) hp hf
  have hend := ov_end (a := a) (b := b) (c := c) (a' := a') (b' := b') (c' := c') (l := l) (k := k) hh
  have hnext : ∀ Y, f ≤ Y → Y < h → _ := fun Y => ov_next (Y := Y) hp hq he hf hu hh heu
  clear he hf hu hh
  have HS : Hid _ := hstart
  have HE : Hid _ := hend
  have HN : Hid _ := hnext
  clear hstart hend hnext
  obtain ⟨N, hN⟩ : ∃ N : Nat, u - e = (N : Int) := ⟨(u - e).toNat, by omega⟩
  have y0 : QBox ((w.alloc (.cells #[.int .i64 a, .int .i64 b, .int .i64 c, .int .i64 d, .slice (some ⟨g, 0, none⟩) l.length m] 26)).alloc (.cells #[.int .i64 a', .int .i64 b', .int .i64 c', .int .i64 d', .slice s k.length m'] 26)) w.heap.size ⟨a, b, c, d⟩ (.slice (some ⟨g, 0, none⟩) l.length m) := (QBox.fresh w a b c d (some ⟨g, 0, none⟩) l.length m 26).alloc _
  have z0 : QBox ((w.alloc (.cells #[.int .i64 a, .int .i64 b, .int .i64 c, .int .i64 d, .slice (some ⟨g, 0, none⟩) l.length m] 26)).alloc (.cells #[.int .i64 a', .int .i64 b', .int .i64 c', .int .i64 d', .slice s k.length m'] 26)) (w.heap.size + 1) ⟨a', b', c', d'⟩ (.slice s k.length m') := QBox.freshAt (w.alloc (.cells #[.int .i64 a, .int .i64 b, .int .i64 c, .int .i64 d, .slice (some ⟨g, 0, none⟩) l.length m] 26)) (w.heap.size + 1) (by simp) a' b' c' d' s k.length m' 26
  have B0 : Below w.heap.size w ((w.alloc (.cells #[.int .i64 a, .int .i64 b, .int .i64 c, .int .i64 d, .slice (some ⟨g, 0, none⟩) l.length m] 26)).alloc (.cells #[.int .i64 a', .int .i64 b', .int .i64 c', .int .i64 d', .slice s k.length m'] 26)) := ((Below.refl _ _).alloc (Nat.le_refl _) _).alloc (by simp) _
  have g0 := hrow.below B0
  have glt := hrow.lt
  go_enter Try.func107, Try.ntmps107
  go_wp2_with fail
  refine (hic _).mono ?_
  rintro e1 w1 ⟨rfl, hb1⟩
  have y1 := y0.below hb1
  have z1 := z0.below hb1
  have g1 := g0.below hb1
  have B1 : Below w.heap.size w w1 := bcall B0 hb1 (by simp; omega)
  have hlt1 : w.heap.size < w1.heap.size := y1.lt
  clear hb1 B0 g0 y0 z0
  have x1 := Box.fresh w1 e f u h 23
  have hO : Ov ⟨a, b, c, d⟩ ⟨a', b', c', d'⟩ ⟨e, f, u, h⟩ (.slice (some ⟨g, 0, none⟩) l.length m) (.slice s k.length m') g w1.heap.size l pad w (w1.alloc (.cells #[.int .i64 e, .int .i64 f, .int .i64 u, .int .i64 h] 23)) :=
    ⟨(But.of B1).step ((Below.refl _ _).alloc (Nat.le_refl _) _), y1.alloc _, z1.alloc _, x1, g1.below ((Below.refl _ _).alloc (Nat.le_refl _) _), glt, hlt1⟩
  obtain ⟨c0, c1, c2, c3⟩ := x1.open
  go_wp2_with fail
  clear c0 c1 c2 c3 x1 y1 z1 g1 B1
  go_loopw [6] (fun i wr => ∃ Y : Int, f ≤ Y ∧ Y ≤ h ∧ i = .int .i64 Y ∧ Ov ⟨a, b, c, d⟩ ⟨a', b', c', d'⟩ ⟨e, f, u, h⟩ (.slice (some ⟨g, 0, none⟩) l.length m) (.slice s k.length m') g w1.heap.size (tabL ⟨a, b, c, d⟩ (ovG ⟨a, b, c, d⟩ l ⟨a', b', c', d'⟩ k Y)) pad w wr) (fun i _ => (h - intOf i).toNat)
  case atStart => exact ⟨f, Int.le_refl _, by omega, rfl, by rw [HS.out]; exact hO⟩
  case round =>
    obtain ⟨Y, hY0, hY1, rfl, hO1⟩ := hrel
    clear hO
    obtain ⟨c0, c1, c2, c3⟩ := hO1.p4.open
    obtain ⟨d0, d1, d2, d3, d4⟩ := hO1.p2.open
    obtain ⟨e0, e1, e2, e3, e4⟩ := hO1.p3.open
    by_cases hlt : Y < h
    · obtain ⟨p0, p1, p2, p3⟩ := idx_bd hv (x := e) (y := Y) ea (by omega) (by omega) (by omega)
      obtain ⟨q0, q1, q2, q3⟩ := idx_bd hv' (x := e) (y := Y) ea' (by omega) (by omega) (by omega)
      obtain ⟨J, hJ⟩ : ∃ J : Nat, idx a b c e Y = (J : Int) := ⟨(idx a b c e Y).toNat, by omega⟩
      obtain ⟨J2, hJ2⟩ : ∃ J2 : Nat, idx a' b' c' e Y = (J2 : Int) := ⟨(idx a' b' c' e Y).toNat, by omega⟩
      obtain ⟨L, hL⟩ : ∃ L, L = tabL ⟨a, b, c, d⟩ (ovG ⟨a, b, c, d⟩ l ⟨a', b', c', d'⟩ k Y) := ⟨_, rfl⟩
      have hNx := HN.out Y hY0 hlt
      rw [← hL, hJ, hJ2, hN] at hNx
      simp only [Int.toNat_natCast] at hNx
      rw [← hL] at hO1
      have hLl : L.length = l.length := by rw [hL, tabL_len, pv_len hp]
      have hfit1 := ov_fit hp (show a ≤ e by omega) (show e < u by omega) gc (show b ≤ Y by omega) (show Y < d by omega)
      have hfit2 := ov_fit hq (show a' ≤ e by omega) (show e < u by omega) gc' (show b' ≤ Y by omega) (show Y < d' by omega)
      rw [hJ, hN] at hfit1
      rw [hJ2, hN] at hfit2
      simp only [Int.toNat_natCast] at hfit1 hfit2
      have HX : Hid _ := hNx
      have HLL : Hid _ := hL
      clear hNx hL
      go_wp2_with fail
      clear c0 c1 c2 c3 d0 d1 d2 d3 d4 e0 e1 e2 e3 e4
      have hst : ∀ (X : OvF ⟨a, b, c, d⟩ ⟨a', b', c', d'⟩ ⟨e, f, u, h⟩ (.slice (some ⟨g, 0, none⟩) l.length m) (.slice s k.length m') g w1.heap.size L pad w) (w' : World), Below X.W.heap.size X.W w' → ∃ Z : OvF ⟨a, b, c, d⟩ ⟨a', b', c', d'⟩ ⟨e, f, u, h⟩ (.slice (some ⟨g, 0, none⟩) l.length m) (.slice s k.length m') g w1.heap.size L pad w, w' = Z.W := fun X w' hb => ⟨⟨w', X.ok.step hb⟩, rfl⟩
      have hne : Nonempty (OvF ⟨a, b, c, d⟩ ⟨a', b', c', d'⟩ ⟨e, f, u, h⟩ (.slice (some ⟨g, 0, none⟩) l.length m) (.slice s k.length m') g w1.heap.size L pad w) := ⟨⟨_, hO1⟩⟩
      have hc0 : ∀ X : OvF ⟨a, b, c, d⟩ ⟨a', b', c', d'⟩ ⟨e, f, u, h⟩ (.slice (some ⟨g, 0, none⟩) l.length m) (.slice s k.length m') g w1.heap.size L pad w, X.W.cell? ⟨w1.heap.size, 0, none⟩ = some (.int .i64 e) := fun X => X.ok.p4.open.1
      have hc1 : ∀ X : OvF ⟨a, b, c, d⟩ ⟨a', b', c', d'⟩ ⟨e, f, u, h⟩ (.slice (some ⟨g, 0, none⟩) l.length m) (.slice s k.length m') g w1.heap.size L pad w, X.W.cell? ⟨w1.heap.size, 1, none⟩ = some (.int .i64 f) := fun X => X.ok.p4.open.2.1
      have hc2 : ∀ X : OvF ⟨a, b, c, d⟩ ⟨a', b', c', d'⟩ ⟨e, f, u, h⟩ (.slice (some ⟨g, 0, none⟩) l.length m) (.slice s k.length m') g w1.heap.size L pad w, X.W.cell? ⟨w1.heap.size, 2, none⟩ = some (.int .i64 u) := fun X => X.ok.p4.open.2.2.1
      have hc3 : ∀ X : OvF ⟨a, b, c, d⟩ ⟨a', b', c', d'⟩ ⟨e, f, u, h⟩ (.slice (some ⟨g, 0, none⟩) l.length m) (.slice s k.length m') g w1.heap.size L pad w, X.W.cell? ⟨w1.heap.size, 3, none⟩ = some (.int .i64 h) := fun X => X.ok.p4.open.2.2.2
      have hd_0 : ∀ X : OvF ⟨a, b, c, d⟩ ⟨a', b', c', d'⟩ ⟨e, f, u, h⟩ (.slice (some ⟨g, 0, none⟩) l.length m) (.slice s k.length m') g w1.heap.size L pad w, X.W.cell? ⟨w.heap.size, 0, none⟩ = some (.int .i64 a) := fun X => X.ok.p2.open.1
      have hd_1 : ∀ X : OvF ⟨a, b, c, d⟩ ⟨a', b', c', d'⟩ ⟨e, f, u, h⟩ (.slice (some ⟨g, 0, none⟩) l.length m) (.slice s k.length m') g w1.heap.size L pad w, X.W.cell? ⟨w.heap.size, 1, none⟩ = some (.int .i64 b) := fun X => X.ok.p2.open.2.1
      have hd_2 : ∀ X : OvF ⟨a, b, c, d⟩ ⟨a', b', c', d'⟩ ⟨e, f, u, h⟩ (.slice (some ⟨g, 0, none⟩) l.length m) (.slice s k.length m') g w1.heap.size L pad w, X.W.cell? ⟨w.heap.size, 2, none⟩ = some (.int .i64 c) := fun X => X.ok.p2.open.2.2.1
      have hd_3 : ∀ X : OvF ⟨a, b, c, d⟩ ⟨a', b', c', d'⟩ ⟨e, f, u, h⟩ (.slice (some ⟨g, 0, none⟩) l.length m) (.slice s k.length m') g w1.heap.size L pad w, X.W.cell? ⟨w.heap.size, 3, none⟩ = some (.int .i64 d) := fun X => X.ok.p2.open.2.2.2.1
      have hd_4 : ∀ X : OvF ⟨a, b, c, d⟩ ⟨a', b', c', d'⟩ ⟨e, f, u, h⟩ (.slice (some ⟨g, 0, none⟩) l.length m) (.slice s k.length m') g w1.heap.size L pad w, X.W.cell? ⟨w.heap.size, 4, none⟩ = some (.slice (some ⟨g, 0, none⟩) l.length m) := fun X => X.ok.p2.open.2.2.2.2
      have he_0 : ∀ X : OvF ⟨a, b, c, d⟩ ⟨a', b', c', d'⟩ ⟨e, f, u, h⟩ (.slice (some ⟨g, 0, none⟩) l.length m) (.slice s k.length m') g w1.heap.size L pad w, X.W.cell? ⟨w.heap.size + 1, 0, none⟩ = some (.int .i64 a') := fun X => X.ok.p3.open.1
      have he_1 : ∀ X : OvF ⟨a, b, c, d⟩ ⟨a', b', c', d'⟩ ⟨e, f, u, h⟩ (.slice (some ⟨g, 0, none⟩) l.length m) (.slice s k.length m') g w1.heap.size L pad w, X.W.cell? ⟨w.heap.size + 1, 1, none⟩ = some (.int .i64 b') := fun X => X.ok.p3.open.2.1
      have he_2 : ∀ X : OvF ⟨a, b, c, d⟩ ⟨a', b', c', d'⟩ ⟨e, f, u, h⟩ (.slice (some ⟨g, 0, none⟩) l.length m) (.slice s k.length m') g w1.heap.size L pad w, X.W.cell? ⟨w.heap.size + 1, 2, none⟩ = some (.int .i64 c') := fun X => X.ok.p3.open.2.2.1
      have he_3 : ∀ X : OvF ⟨a, b, c, d⟩ ⟨a', b', c', d'⟩ ⟨e, f, u, h⟩ (.slice (some ⟨g, 0, none⟩) l.length m) (.slice s k.length m') g w1.heap.size L pad w, X.W.cell? ⟨w.heap.size + 1, 3, none⟩ = some (.int .i64 d') := fun X => X.ok.p3.open.2.2.2.1
      have he_4 : ∀ X : OvF ⟨a, b, c, d⟩ ⟨a', b', c', d'⟩ ⟨e, f, u, h⟩ (.slice (some ⟨g, 0, none⟩) l.length m) (.slice s k.length m') g w1.heap.size L pad w, X.W.cell? ⟨w.heap.size + 1, 4, none⟩ = some (.slice s k.length m') := fun X => X.ok.p3.open.2.2.2.2
      refine wp_region_in (fun X : OvF ⟨a, b, c, d⟩ ⟨a', b', c', d'⟩ ⟨e, f, u, h⟩ (.slice (some ⟨g, 0, none⟩) l.length m) (.slice s k.length m') g w1.heap.size L pad w => X.W) (by kernel_rfl) (by kernel_rfl) ⟨⟨_, hO1.step (Below.refl _ _).drew⟩, rfl⟩ ?_
      repeat (first | go_big_quiet_step ((first | (go_at_call 121; exact call_in (index_c _ _ _ _ _ _ _ _ _ _ (by first | exact hv | exact hv') (by omega) (by omega) (by omega) (by omega)) (hst _)))) | quiet_step ((first | (go_at_call 121; exact call_in (index_c _ _ _ _ _ _ _ _ _ _ (by first | exact hv | exact hv') (by omega) (by omega) (by omega) (by omega)) (hst _)))))
      refine wpQuiet_nil ?_
      intro w2 hw'
      obtain ⟨⟨_, hO2⟩, hw''⟩ := hw'
      subst hw''
      clear hst hne hc0 hc1 hc2 hc3 hd_0 hd_1 hd_2 hd_3 hd_4 he_0 he_1 he_2 he_3 he_4
      go_wp2_with fail
      rcases hH with rfl | ⟨bb, off, rfl, hr⟩
      · simp at hfit2; omega
      have hHw : HoldsI w2 (some ⟨bb, off, none⟩) k := HoldsI.but (.inr ⟨bb, off, rfl, hr⟩) hO2.but hs
      have HSR : Hid _ := holdsI_part hHw J2 N (by omega)
      clear hHw
      obtain ⟨M, hM⟩ : ∃ M : Nat, (J : Int) + (N : Int) = (M : Int) := ⟨J + N, by omega⟩
      obtain ⟨M2, hM2⟩ : ∃ M2 : Nat, (J2 : Int) + (N : Int) = (M2 : Int) := ⟨J2 + N, by omega⟩
      have hwM : IntKind.i64.wrap (M : Int) = (M : Int) := IntWalk.i64_in _ (by omega)
      have hwM2 : IntKind.i64.wrap (M2 : Int) = (M2 : Int) := IntWalk.i64_in _ (by omega)
      have s1 : (J : Int) ≤ (M : Int) := by omega
      have s2 : (M : Int) ≤ (m : Int) := by omega
      have s3 : ¬ m = J := by omega
      have t1 : (J2 : Int) ≤ (M2 : Int) := by omega
      have t2 : (M2 : Int) ≤ (m' : Int) := by omega
      have t3 : ¬ m' = J2 := by omega
      have k1 := hO2.p2.open.2.2.2.2
      have k2 := hO2.p3.open.2.2.2.2
      have ROW : Hid (w2.drew.heap[g]? = some (.cells (L.map (Value.int .i64) ++ pad).toArray 3 (0, 0))) := hO2.row
      have NE1 : w.heap.size ≠ g := by omega
      have NE2 : w.heap.size + 1 ≠ g := by omega
      have NE3 : w1.heap.size ≠ g := by omega
      go_region_held3 (fun w' => w'.cell? ⟨w.heap.size, 4, none⟩ = some (.slice (some ⟨g, 0, none⟩) l.length m) ∧ w'.cell? ⟨w.heap.size + 1, 4, none⟩ = some (.slice (some ⟨bb, off, none⟩) k.length m'))
        (first | (with_reducible assumption) | exact ⟨k1, k2⟩ | exact ⟨y2.open.2.2.2.2, z2.open.2.2.2.2⟩)
        (first | ((refine step_copy_but rfl (.tmp 43) (.tmp 50) 24 24 rfl 3 Try.underlying24 szI g J _ _ ⟨bb, off + J2, none⟩ _ _ rfl rfl (L.map (Value.int .i64) ++ pad) 3 ROW.out (((k.drop J2).take N).map (Value.int .i64)) (by rw [List.length_map, List.length_take, List.length_drop]; show min N (k.length - J2) = min (M2 - J2) (M - J); omega) HSR.out (by rw [List.length_map, List.length_take, List.length_drop, List.length_append, List.length_map]; omega) (oneI _) ?_); intro w4 hg4 hb4; have r4 := hg4.out; have y2 := (hO2.step (Below.refl _ _).drew).p2.but hb4 NE1; have z2 := (hO2.step (Below.refl _ _).drew).p3.but hb4 NE2))
      have hO3 : Ov ⟨a, b, c, d⟩ ⟨a', b', c', d'⟩ ⟨e, f, u, h⟩ (.slice (some ⟨g, 0, none⟩) l.length m) (.slice (some ⟨bb, off, none⟩) k.length m') g w1.heap.size (tabL ⟨a, b, c, d⟩ (ovG ⟨a, b, c, d⟩ l ⟨a', b', c', d'⟩ k (Y + 1))) pad w w4 := by
        refine ⟨(hO2.step (Below.refl _ _).drew).but.trans hb4, y2, z2, (hO2.step (Below.refl _ _).drew).p4.but hb4 NE3, ?_, hO2.glt, hO2.blt⟩
        rw [splice_pad _ _ _ _ (by rw [List.length_take, List.length_drop]; omega), HX.out] at r4
        exact r4
      have HO : Hid _ := hO3
      clear hO3 r4 hg4 y2 z2 hb4 hO2 hO1 ROW HSR k1 k2
      have hww : IntKind.i64.wrap (Y + 1) = Y + 1 := IntWalk.i64_in _ (by omega)
      go_wp2
      go_roundw
      case rel => exact ⟨Y + 1, by omega, by omega, by go_num, HO.out⟩
      case measure => simp [intOf]; omega
    · obtain rfl : Y = h := by omega
      have HO : Hid _ := hO1
      clear hO1
      go_wp2
      go_end0
      exact ⟨rfl, HO.out.but, by rw [← HE.out]; exact HO.out.row⟩
end Go.Proofs.Ytoplgnckdmkaoaa

namespace Go.Proofs.Ytoplgnckdmkaoaa
open Go.RowKit

theorem paste_none {a b c d a' b' c' d' : Int} {l k : List Int} (hp : pvB a b c d l.length = true) (he : Pl.emptyB (max a a') (max b b') (min c c') (min d d') = true) : pasteL ⟨a, b, c, d⟩ l ⟨a', b', c', d'⟩ k = l := by
  rw [← tabL_self (pv_len hp)]
  refine tabL_congr fun x y hxy => ?_
  rw [tabL_self (pv_len hp), ovF, if_neg]
  intro h1
  have h2 := Pl.has_iff.1 h1
  have h3 := Pl.has_iff.1 hxy
  have h4 := Pl.empty_iff.1 he
  dsimp only at h2 h3
  omega
theorem over_c (a b c d a' b' c' d' : Int) (g : Nat) (s : Option Addr) (m m' : Nat) (l k : List Int) (pad : List Value) (w : World)
    (hp : pvB a b c d l.length = true) (hq : pvB a' b' c' d' k.length = true)
    (hm : l.length ≤ m) (hm' : k.length ≤ m') (hrow : RowP w g l pad) (hH : HoldsI w s k) (hs : 0 < k.length → ∀ p, s = some p → p.block ≠ g) :
    Calls Try.prog 107 #[.agg #[.int .i64 a, .int .i64 b, .int .i64 c, .int .i64 d, .slice (some ⟨g, 0, none⟩) l.length m], .agg #[.int .i64 a', .int .i64 b', .int .i64 c', .int .i64 d', .slice s k.length m']] w fun e w' => e = .returned (.tuple #[]) ∧ But g w w' ∧ RowP w' g (pasteL ⟨a, b, c, d⟩ l ⟨a', b', c', d'⟩ k) pad := by
  by_cases he : Pl.emptyB (max a a') (max b b') (min c c') (min d d') = true
  · refine (over_no a b c d a' b' c' d' _ _ _ _ _ _ w he).mono ?_
    rintro e w1 ⟨rfl, hb⟩
    exact ⟨rfl, But.of hb, by rw [paste_none hp he]; exact hrow.below hb⟩
  · obtain ⟨h1, h2⟩ := Pl.empty_not.1 (by simpa using he)
    have := ov_fit hq (show a' ≤ max a a' by omega) h1 (show min c c' ≤ c' by omega) (show b' ≤ max b b' by omega) (show max b b' < d' by omega)
    exact over_yes a b c d a' b' c' d' _ _ _ _ g s m m' l k pad w hp hq rfl rfl rfl rfl h1 h2 hm hm' hrow hH (hs (by omega))
theorem HoldsI.lt {w : World} {s : Option Addr} {l : List Int} (h : HoldsI w s l) (hl : 0 < l.length) : ∀ p, s = some p → p.block < w.heap.size := by
  rcases h with rfl | ⟨b, off, rfl, hr⟩
  · simp at hl
  · rintro p hp
    simp at hp
    subst hp
    exact cell_lt (hr 0 hl)
theorem QBox.far5 {w : World} {B b : Nat} {r : Pl.R} {v : Value} (h : QBox w B r v) (hn : B ≠ b) (v0 v1 v2 v3 v4 : Value) : QBox (((((w.setCell ⟨b, 0, none⟩ v0).setCell ⟨b, 1, none⟩ v1).setCell ⟨b, 2, none⟩ v2).setCell ⟨b, 3, none⟩ v3).setCell ⟨b, 4, none⟩ v4) B r v :=
  ((((h.far _ _ hn).far _ _ hn).far _ _ hn).far _ _ hn).far _ _ hn
theorem Box.far5 {w : World} {B b : Nat} {r : Pl.R} (h : Box w B r) (hn : B ≠ b) (v0 v1 v2 v3 v4 : Value) : Box (((((w.setCell ⟨b, 0, none⟩ v0).setCell ⟨b, 1, none⟩ v1).setCell ⟨b, 2, none⟩ v2).setCell ⟨b, 3, none⟩ v3).setCell ⟨b, 4, none⟩ v4) B r :=
  ((((h.far _ _ hn).far _ _ hn).far _ _ hn).far _ _ hn).far _ _ hn
theorem RowP.far {w : World} {g : Nat} {l : List Int} {pad : List Value} (h : RowP w g l pad) (a : Addr) (v : Value) (hn : g ≠ a.block) : RowP (w.setCell a v) g l pad := (Below.heap_setCell _ _ _ _ hn).trans h
theorem RowP.far5 {w : World} {B b : Nat} {l : List Int} {pad : List Value} (h : RowP w B l pad) (hn : B ≠ b) (v0 v1 v2 v3 v4 : Value) : RowP (((((w.setCell ⟨b, 0, none⟩ v0).setCell ⟨b, 1, none⟩ v1).setCell ⟨b, 2, none⟩ v2).setCell ⟨b, 3, none⟩ v3).setCell ⟨b, 4, none⟩ v4) B l pad :=
  ((((h.far _ _ hn).far _ _ hn).far _ _ hn).far _ _ hn).far _ _ hn
/-- A plane of the call's own stands in its variable. -/
structure Made (w : World) (P : Nat) (rp : Pl.R) (vp : Value) (q : Pl.R) (L : List Int) (cap : Nat) (pad : List Value) (W : World) (g B : Nat) : Prop where
  p : QBox W P rp vp
  z : QBox W (w.heap.size + 2) ⟨0, 0, 0, 0⟩ (.slice none 0 0)
  part : QBox W B q (.slice (some ⟨g, 0, none⟩) L.length cap)
  row : RowP W g L pad
  below : Below w.heap.size w W
  hg : w.heap.size + 2 < g
  hB : w.heap.size + 2 < B
  hne : g ≠ B
abbrev zeroP : Obj := .cells #[.int .i64 0, .int .i64 0, .int .i64 0, .int .i64 0, .slice none 0 0] 26
abbrev zeroRow (n : Nat) : Obj := .cells (madeCells #[.int .i64 0] n) 3
theorem made1 {w w4 : World} {P : Nat} {rp : Pl.R} {vp : Value} (p4 : QBox w4 P rp vp) (z4 : QBox w4 (w.heap.size + 2) ⟨0, 0, 0, 0⟩ (.slice none 0 0)) (B4 : Below w.heap.size w w4) (n : Nat) (a b c d : Int) :
    Made w P rp vp ⟨a, b, c, d⟩ (List.replicate n 0) n [] ((w4.alloc (zeroRow n)).alloc (.cells #[.int .i64 a, .int .i64 b, .int .i64 c, .int .i64 d, .slice (some ⟨w4.heap.size, 0, none⟩) n n] 26)) w4.heap.size (w4.heap.size + 1) := by
  have hz := z4.lt
  have e : (w4.alloc (zeroRow n)).heap.size = w4.heap.size + 1 := by simp
  refine ⟨(p4.alloc _).alloc _, (z4.alloc _).alloc _, ?_, ?_, ?_, hz, by omega, by omega⟩
  · rw [List.length_replicate]; exact QBox.freshAt (w4.alloc (zeroRow n)) (w4.heap.size + 1) e.symm a b c d (some ⟨w4.heap.size, 0, none⟩) n n 26
  · exact (RowP.of (rowAt_made w4 n)).below ((Below.refl _ _).alloc (Nat.le_refl _) _)
  · exact (B4.alloc (by omega) _).alloc (by rw [e]; omega) _
theorem made2 {w w4 : World} {P : Nat} {rp : Pl.R} {vp : Value} (p4 : QBox w4 P rp vp) (z4 : QBox w4 (w.heap.size + 2) ⟨0, 0, 0, 0⟩ (.slice none 0 0)) (B4 : Below w.heap.size w w4) (n : Nat) (a b c d : Int) :
    Made w P rp vp ⟨a, b, c, d⟩ (List.replicate n 0) n [] ((w4.alloc (.cells #[.int .i64 a, .int .i64 b, .int .i64 c, .int .i64 d, .slice (some ⟨w4.heap.size + 1, 0, none⟩) n n] 26)).alloc (zeroRow n)) (w4.heap.size + 1) w4.heap.size := by
  have hz := z4.lt
  have e : (w4.alloc (.cells #[.int .i64 a, .int .i64 b, .int .i64 c, .int .i64 d, .slice (some ⟨w4.heap.size + 1, 0, none⟩) n n] 26)).heap.size = w4.heap.size + 1 := by simp
  refine ⟨(p4.alloc _).alloc _, (z4.alloc _).alloc _, ?_, ?_, ?_, by omega, hz, by omega⟩
  · rw [List.length_replicate]; exact (QBox.fresh w4 a b c d (some ⟨w4.heap.size + 1, 0, none⟩) n n 26).alloc (zeroRow n)
  · have := RowP.of (rowAt_made (w4.alloc (.cells #[.int .i64 a, .int .i64 b, .int .i64 c, .int .i64 d, .slice (some ⟨w4.heap.size + 1, 0, none⟩) n n] 26)) n)
    rw [e] at this
    exact this
  · exact (B4.alloc (by omega) _).alloc (by rw [e]; omega) _
theorem made3 {w w4 : World} {P B : Nat} {rp : Pl.R} {vp : Value} (hP : P < w.heap.size + 2) (hB : w.heap.size + 2 < B) (p4 : QBox w4 P rp vp) (z4 : QBox w4 (w.heap.size + 2) ⟨0, 0, 0, 0⟩ (.slice none 0 0)) (q4 : QBox w4 B ⟨0, 0, 0, 0⟩ (.slice none 0 0)) (B4 : Below w.heap.size w w4) (n : Nat) (a b c d : Int) :
    Made w P rp vp ⟨a, b, c, d⟩ (List.replicate n 0) n [] ((((((w4.setCell ⟨B, 0, none⟩ (.int .i64 a)).setCell ⟨B, 1, none⟩ (.int .i64 b)).setCell ⟨B, 2, none⟩ (.int .i64 c)).setCell ⟨B, 3, none⟩ (.int .i64 d)).setCell ⟨B, 4, none⟩ (.slice (some ⟨w4.heap.size, 0, none⟩) n n)).alloc (zeroRow n)) w4.heap.size B := by
  have hz := z4.lt
  have hq := q4.lt
  refine ⟨(p4.far5 (by omega) _ _ _ _ _).alloc _, (z4.far5 (by omega) _ _ _ _ _).alloc _, ?_, ?_, ?_, hz, hB, by omega⟩
  · have := (q4.store a b c d (.slice (some ⟨w4.heap.size, 0, none⟩) n n)).alloc (zeroRow n)
    rw [List.length_replicate]; exact this
  · have := RowP.of (rowAt_made (((((w4.setCell ⟨B, 0, none⟩ (.int .i64 a)).setCell ⟨B, 1, none⟩ (.int .i64 b)).setCell ⟨B, 2, none⟩ (.int .i64 c)).setCell ⟨B, 3, none⟩ (.int .i64 d)).setCell ⟨B, 4, none⟩ (.slice (some ⟨w4.heap.size, 0, none⟩) n n)) n)
    simp only [World.size_setCell] at this
    exact this
  · exact (below5 B4 (by omega) _ _ _ _ _).alloc (by simp only [World.size_setCell]; omega) _
theorem area_mono {a b c d a' b' c' d' : Int} (hv : Pl.validB a b c d = true) (hv' : Pl.validB a' b' c' d' = true) (hc : Pl.contB a b c d a' b' c' d' = true) : Pl.areaI a' b' c' d' ≤ Pl.areaI a b c d ∧ 0 ≤ Pl.areaI a' b' c' d' := by
  have h0 := (Pl.area_bd hv).1
  have h0' := (Pl.area_bd hv').1
  obtain ⟨v1, v2, v3, v4, v5, v6⟩ := Pl.valid_iff.1 hv
  obtain ⟨u1, u2, u3, u4, u5, u6⟩ := Pl.valid_iff.1 hv'
  rw [Pl.areaI, Pl.areaI, if_pos hv, if_pos hv']
  refine ⟨?_, h0'⟩
  rcases Pl.cont_iff.1 hc with (h | h) | ⟨h1, h2, h3, h4⟩
  · rw [show c' - a' = 0 by omega, Int.zero_mul]; exact h0
  · rw [show d' - b' = 0 by omega, Int.mul_zero]; exact h0
  · exact Int.le_trans (Int.mul_le_mul_of_nonneg_right (show c' - a' ≤ c - a by omega) (by omega)) (Int.mul_le_mul_of_nonneg_left (show d' - b' ≤ d - b by omega) (by omega))
theorem crop_over {a b c d a' b' c' d' : Int} {l z : List Int} (hc : Pl.contB a b c d a' b' c' d' = true) : pasteL ⟨a', b', c', d'⟩ z ⟨a, b, c, d⟩ l = cropL ⟨a, b, c, d⟩ l ⟨a', b', c', d'⟩ := by
  refine tabL_congr fun x y hxy => ?_
  rw [ovF, if_pos]
  have h1 := Pl.has_iff.1 hxy
  have h2 := Pl.cont_iff.1 hc
  exact Pl.has_iff.2 ⟨by dsimp only; omega, by dsimp only; omega, by dsimp only; omega, by dsimp only; omega⟩
set_option maxRecDepth 100000 in
set_option maxHeartbeats 1000000 in
theorem crop_no1 (a b c d a' b' c' d' : Int) (s : Option Addr) (m : Nat) (l : List Int) (w : World) (hp : pvB a b c d l.length = false) :
    Calls Try.prog 46 #[.agg #[.int .i64 a, .int .i64 b, .int .i64 c, .int .i64 d, .slice s l.length m], .agg #[.int .i64 a', .int .i64 b', .int .i64 c', .int .i64 d']] w (GivesPlane ⟨0, 0, 0, 0⟩ [] 1 w) := by
  have p0 : QBox (((w.alloc (.cells #[.int .i64 a, .int .i64 b, .int .i64 c, .int .i64 d, .slice s l.length m] 26)).alloc (.cells #[.int .i64 a', .int .i64 b', .int .i64 c', .int .i64 d'] 23)).alloc (.cells #[.int .i64 0, .int .i64 0, .int .i64 0, .int .i64 0, .slice none 0 0] 26)) w.heap.size ⟨a, b, c, d⟩ (.slice s l.length m) := ((QBox.fresh w a b c d s l.length m 26).alloc _).alloc _
  have r0 : Box (((w.alloc (.cells #[.int .i64 a, .int .i64 b, .int .i64 c, .int .i64 d, .slice s l.length m] 26)).alloc (.cells #[.int .i64 a', .int .i64 b', .int .i64 c', .int .i64 d'] 23)).alloc (.cells #[.int .i64 0, .int .i64 0, .int .i64 0, .int .i64 0, .slice none 0 0] 26)) (w.heap.size + 1) ⟨a', b', c', d'⟩ := (Box.freshAt (w.alloc (.cells #[.int .i64 a, .int .i64 b, .int .i64 c, .int .i64 d, .slice s l.length m] 26)) (w.heap.size + 1) (by simp) a' b' c' d' 23).alloc _ _
  have z0 : QBox (((w.alloc (.cells #[.int .i64 a, .int .i64 b, .int .i64 c, .int .i64 d, .slice s l.length m] 26)).alloc (.cells #[.int .i64 a', .int .i64 b', .int .i64 c', .int .i64 d'] 23)).alloc (.cells #[.int .i64 0, .int .i64 0, .int .i64 0, .int .i64 0, .slice none 0 0] 26)) (w.heap.size + 2) ⟨0, 0, 0, 0⟩ (.slice none 0 0) := QBox.freshAt ((w.alloc (.cells #[.int .i64 a, .int .i64 b, .int .i64 c, .int .i64 d, .slice s l.length m] 26)).alloc (.cells #[.int .i64 a', .int .i64 b', .int .i64 c', .int .i64 d'] 23)) (w.heap.size + 2) (by simp) 0 0 0 0 none 0 0 26
  have B0 : Below w.heap.size w (((w.alloc (.cells #[.int .i64 a, .int .i64 b, .int .i64 c, .int .i64 d, .slice s l.length m] 26)).alloc (.cells #[.int .i64 a', .int .i64 b', .int .i64 c', .int .i64 d'] 23)).alloc (.cells #[.int .i64 0, .int .i64 0, .int .i64 0, .int .i64 0, .slice none 0 0] 26)) := (((Below.refl _ _).alloc (Nat.le_refl _) _).alloc (by simp) _).alloc (by simp; omega) _
  go_enter Try.func46, Try.ntmps46
  go_wp2_with fail
  refine (pv_c _ _ _ _ _ _ _ _).mono ?_
  rintro e w1 ⟨rfl, hb1⟩
  have p1 := p0.below hb1
  have r1 := r0.below hb1
  have z1 := z0.below hb1
  have B1 : Below w.heap.size w w1 := bcall B0 hb1 (by simp; omega)
  clear hb1 p0 r0 z0 B0
  obtain ⟨c0, c1, c2, c3, c4⟩ := p1.open
  obtain ⟨r0, r1', r2', r3'⟩ := r1.open
  obtain ⟨d0, d1, d2, d3, d4⟩ := z1.open
  have g1 := z1.free
  go_wp2
  refine bodyPost_ret (v := .tuple #[.agg #[.int .i64 0, .int .i64 0, .int .i64 0, .int .i64 0, .slice none 0 0], .int .i64 1]) ?_ rfl ?_
  · simp [results, Try.results46, go_sem, d0, d1, d2, d3, d4]
  · exact ⟨none, 0, rfl, .inl rfl, below5 B1 (by omega) _ _ _ _ _, Nat.le_refl _⟩
set_option maxRecDepth 100000 in
set_option maxHeartbeats 1000000 in
theorem crop_no2 (a b c d a' b' c' d' : Int) (s : Option Addr) (m : Nat) (l : List Int) (w : World) (hp : pvB a b c d l.length = true) (hv : Pl.validB a' b' c' d' = false) :
    Calls Try.prog 46 #[.agg #[.int .i64 a, .int .i64 b, .int .i64 c, .int .i64 d, .slice s l.length m], .agg #[.int .i64 a', .int .i64 b', .int .i64 c', .int .i64 d']] w (GivesPlane ⟨0, 0, 0, 0⟩ [] 2 w) := by
  have p0 : QBox (((w.alloc (.cells #[.int .i64 a, .int .i64 b, .int .i64 c, .int .i64 d, .slice s l.length m] 26)).alloc (.cells #[.int .i64 a', .int .i64 b', .int .i64 c', .int .i64 d'] 23)).alloc (.cells #[.int .i64 0, .int .i64 0, .int .i64 0, .int .i64 0, .slice none 0 0] 26)) w.heap.size ⟨a, b, c, d⟩ (.slice s l.length m) := ((QBox.fresh w a b c d s l.length m 26).alloc _).alloc _
  have r0 : Box (((w.alloc (.cells #[.int .i64 a, .int .i64 b, .int .i64 c, .int .i64 d, .slice s l.length m] 26)).alloc (.cells #[.int .i64 a', .int .i64 b', .int .i64 c', .int .i64 d'] 23)).alloc (.cells #[.int .i64 0, .int .i64 0, .int .i64 0, .int .i64 0, .slice none 0 0] 26)) (w.heap.size + 1) ⟨a', b', c', d'⟩ := (Box.freshAt (w.alloc (.cells #[.int .i64 a, .int .i64 b, .int .i64 c, .int .i64 d, .slice s l.length m] 26)) (w.heap.size + 1) (by simp) a' b' c' d' 23).alloc _ _
  have z0 : QBox (((w.alloc (.cells #[.int .i64 a, .int .i64 b, .int .i64 c, .int .i64 d, .slice s l.length m] 26)).alloc (.cells #[.int .i64 a', .int .i64 b', .int .i64 c', .int .i64 d'] 23)).alloc (.cells #[.int .i64 0, .int .i64 0, .int .i64 0, .int .i64 0, .slice none 0 0] 26)) (w.heap.size + 2) ⟨0, 0, 0, 0⟩ (.slice none 0 0) := QBox.freshAt ((w.alloc (.cells #[.int .i64 a, .int .i64 b, .int .i64 c, .int .i64 d, .slice s l.length m] 26)).alloc (.cells #[.int .i64 a', .int .i64 b', .int .i64 c', .int .i64 d'] 23)) (w.heap.size + 2) (by simp) 0 0 0 0 none 0 0 26
  have B0 : Below w.heap.size w (((w.alloc (.cells #[.int .i64 a, .int .i64 b, .int .i64 c, .int .i64 d, .slice s l.length m] 26)).alloc (.cells #[.int .i64 a', .int .i64 b', .int .i64 c', .int .i64 d'] 23)).alloc (.cells #[.int .i64 0, .int .i64 0, .int .i64 0, .int .i64 0, .slice none 0 0] 26)) := (((Below.refl _ _).alloc (Nat.le_refl _) _).alloc (by simp) _).alloc (by simp; omega) _
  go_enter Try.func46, Try.ntmps46
  go_wp2_with fail
  refine (pv_c _ _ _ _ _ _ _ _).mono ?_
  rintro e w1 ⟨rfl, hb1⟩
  have p1 := p0.below hb1
  have r1 := r0.below hb1
  have z1 := z0.below hb1
  have B1 : Below w.heap.size w w1 := bcall B0 hb1 (by simp; omega)
  clear hb1 p0 r0 z0 B0
  obtain ⟨c0, c1, c2, c3, c4⟩ := p1.open
  obtain ⟨r0, r1', r2', r3'⟩ := r1.open
  obtain ⟨d0, d1, d2, d3, d4⟩ := z1.open
  have g1 := z1.free
  go_wp2_with fail
  refine (valid_c _ _ _ _ _).mono ?_
  rintro e w2 ⟨rfl, hb2⟩
  have p2 := p1.below hb2
  have r2 := r1.below hb2
  have z2 := z1.below hb2
  have B2 : Below w.heap.size w w2 := bcall B1 hb2 (by have := p1.lt; omega)
  clear hb2 p1 r1 z1 B1 c0 c1 c2 c3 c4 r0 r1' r2' r3' d0 d1 d2 d3 d4 g1
  obtain ⟨c0, c1, c2, c3, c4⟩ := p2.open
  obtain ⟨r0, r1', r2', r3'⟩ := r2.open
  obtain ⟨d0, d1, d2, d3, d4⟩ := z2.open
  have g1 := z2.free
  go_wp2
  refine bodyPost_ret (v := .tuple #[.agg #[.int .i64 0, .int .i64 0, .int .i64 0, .int .i64 0, .slice none 0 0], .int .i64 2]) ?_ rfl ?_
  · simp [results, Try.results46, go_sem, d0, d1, d2, d3, d4]
  · exact ⟨none, 0, rfl, .inl rfl, below5 B2 (by omega) _ _ _ _ _, Nat.le_refl _⟩
set_option maxRecDepth 100000 in
set_option maxHeartbeats 1000000 in
theorem crop_no3 (a b c d a' b' c' d' : Int) (s : Option Addr) (m : Nat) (l : List Int) (w : World) (hp : pvB a b c d l.length = true) (hv : Pl.validB a' b' c' d' = true) (hc : Pl.contB a b c d a' b' c' d' = false) :
    Calls Try.prog 46 #[.agg #[.int .i64 a, .int .i64 b, .int .i64 c, .int .i64 d, .slice s l.length m], .agg #[.int .i64 a', .int .i64 b', .int .i64 c', .int .i64 d']] w (GivesPlane ⟨0, 0, 0, 0⟩ [] 2 w) := by
  have p0 : QBox (((w.alloc (.cells #[.int .i64 a, .int .i64 b, .int .i64 c, .int .i64 d, .slice s l.length m] 26)).alloc (.cells #[.int .i64 a', .int .i64 b', .int .i64 c', .int .i64 d'] 23)).alloc (.cells #[.int .i64 0, .int .i64 0, .int .i64 0, .int .i64 0, .slice none 0 0] 26)) w.heap.size ⟨a, b, c, d⟩ (.slice s l.length m) := ((QBox.fresh w a b c d s l.length m 26).alloc _).alloc _
  have r0 : Box (((w.alloc (.cells #[.int .i64 a, .int .i64 b, .int .i64 c, .int .i64 d, .slice s l.length m] 26)).alloc (.cells #[.int .i64 a', .int .i64 b', .int .i64 c', .int .i64 d'] 23)).alloc (.cells #[.int .i64 0, .int .i64 0, .int .i64 0, .int .i64 0, .slice none 0 0] 26)) (w.heap.size + 1) ⟨a', b', c', d'⟩ := (Box.freshAt (w.alloc (.cells #[.int .i64 a, .int .i64 b, .int .i64 c, .int .i64 d, .slice s l.length m] 26)) (w.heap.size + 1) (by simp) a' b' c' d' 23).alloc _ _
  have z0 : QBox (((w.alloc (.cells #[.int .i64 a, .int .i64 b, .int .i64 c, .int .i64 d, .slice s l.length m] 26)).alloc (.cells #[.int .i64 a', .int .i64 b', .int .i64 c', .int .i64 d'] 23)).alloc (.cells #[.int .i64 0, .int .i64 0, .int .i64 0, .int .i64 0, .slice none 0 0] 26)) (w.heap.size + 2) ⟨0, 0, 0, 0⟩ (.slice none 0 0) := QBox.freshAt ((w.alloc (.cells #[.int .i64 a, .int .i64 b, .int .i64 c, .int .i64 d, .slice s l.length m] 26)).alloc (.cells #[.int .i64 a', .int .i64 b', .int .i64 c', .int .i64 d'] 23)) (w.heap.size + 2) (by simp) 0 0 0 0 none 0 0 26
  have B0 : Below w.heap.size w (((w.alloc (.cells #[.int .i64 a, .int .i64 b, .int .i64 c, .int .i64 d, .slice s l.length m] 26)).alloc (.cells #[.int .i64 a', .int .i64 b', .int .i64 c', .int .i64 d'] 23)).alloc (.cells #[.int .i64 0, .int .i64 0, .int .i64 0, .int .i64 0, .slice none 0 0] 26)) := (((Below.refl _ _).alloc (Nat.le_refl _) _).alloc (by simp) _).alloc (by simp; omega) _
  go_enter Try.func46, Try.ntmps46
  go_wp2_with fail
  refine (pv_c _ _ _ _ _ _ _ _).mono ?_
  rintro e w1 ⟨rfl, hb1⟩
  have p1 := p0.below hb1
  have r1 := r0.below hb1
  have z1 := z0.below hb1
  have B1 : Below w.heap.size w w1 := bcall B0 hb1 (by simp; omega)
  clear hb1 p0 r0 z0 B0
  obtain ⟨c0, c1, c2, c3, c4⟩ := p1.open
  obtain ⟨r0, r1', r2', r3'⟩ := r1.open
  obtain ⟨d0, d1, d2, d3, d4⟩ := z1.open
  have g1 := z1.free
  go_wp2_with fail
  refine (valid_c _ _ _ _ _).mono ?_
  rintro e w2 ⟨rfl, hb2⟩
  have p2 := p1.below hb2
  have r2 := r1.below hb2
  have z2 := z1.below hb2
  have B2 : Below w.heap.size w w2 := bcall B1 hb2 (by have := p1.lt; omega)
  clear hb2 p1 r1 z1 B1 c0 c1 c2 c3 c4 r0 r1' r2' r3' d0 d1 d2 d3 d4 g1
  obtain ⟨c0, c1, c2, c3, c4⟩ := p2.open
  obtain ⟨r0, r1', r2', r3'⟩ := r2.open
  obtain ⟨d0, d1, d2, d3, d4⟩ := z2.open
  have g1 := z2.free
  go_wp2_with fail
  refine (cont_c _ _ _ _ _ _ _ _ _).mono ?_
  rintro e w3 ⟨rfl, hb3⟩
  have p3 := p2.below hb3
  have r3 := r2.below hb3
  have z3 := z2.below hb3
  have B3 : Below w.heap.size w w3 := bcall B2 hb3 (by have := p2.lt; omega)
  clear hb3 p2 r2 z2 B2 c0 c1 c2 c3 c4 r0 r1' r2' r3' d0 d1 d2 d3 d4 g1
  obtain ⟨c0, c1, c2, c3, c4⟩ := p3.open
  obtain ⟨r0, r1', r2', r3'⟩ := r3.open
  obtain ⟨d0, d1, d2, d3, d4⟩ := z3.open
  have g1 := z3.free
  go_wp2
  refine bodyPost_ret (v := .tuple #[.agg #[.int .i64 0, .int .i64 0, .int .i64 0, .int .i64 0, .slice none 0 0], .int .i64 2]) ?_ rfl ?_
  · simp [results, Try.results46, go_sem, d0, d1, d2, d3, d4]
  · exact ⟨none, 0, rfl, .inl rfl, below5 B3 (by omega) _ _ _ _ _, Nat.le_refl _⟩
set_option maxRecDepth 100000 in
set_option maxHeartbeats 1000000 in
theorem crop_yes (a b c d a' b' c' d' : Int) (s : Option Addr) (m : Nat) (l : List Int) (w : World) (hp : pvB a b c d l.length = true) (hv : Pl.validB a' b' c' d' = true) (hc : Pl.contB a b c d a' b' c' d' = true) (hm : l.length ≤ m) (hH : HoldsI w s l) :
    Calls Try.prog 46 #[.agg #[.int .i64 a, .int .i64 b, .int .i64 c, .int .i64 d, .slice s l.length m], .agg #[.int .i64 a', .int .i64 b', .int .i64 c', .int .i64 d']] w (GivesPlane ⟨a', b', c', d'⟩ (cropL ⟨a, b, c, d⟩ l ⟨a', b', c', d'⟩) 0 w) := by
  obtain ⟨hpv, hpa, hpn⟩ := pv_iff.1 hp
  obtain ⟨am1, am2⟩ := area_mono hpv hv hc
  obtain ⟨C, hC⟩ : ∃ C : Nat, Pl.areaI a' b' c' d' = (C : Int) := ⟨(Pl.areaI a' b' c' d').toNat, by omega⟩
  have hCle : C ≤ 1048576 := by omega
  have HQ : Hid (pvB a' b' c' d' (List.replicate C (0 : Int)).length = true) := pv_iff.2 ⟨hv, by omega, by rw [List.length_replicate]; omega⟩
  have HC : Hid _ := crop_over (l := l) (z := List.replicate C 0) hc
  have hmk := fun (W : World) => run_make_row' (P := Try.prog) 24 3 (.int .i64 0) 8 Try.underlying24 infoI rfl .i64 .i64 C (by omega) (by omega) W
  clear am1 am2 hpn
  have p0 : QBox (((w.alloc (.cells #[.int .i64 a, .int .i64 b, .int .i64 c, .int .i64 d, .slice s l.length m] 26)).alloc (.cells #[.int .i64 a', .int .i64 b', .int .i64 c', .int .i64 d'] 23)).alloc (.cells #[.int .i64 0, .int .i64 0, .int .i64 0, .int .i64 0, .slice none 0 0] 26)) w.heap.size ⟨a, b, c, d⟩ (.slice s l.length m) := ((QBox.fresh w a b c d s l.length m 26).alloc _).alloc _
  have r0 : Box (((w.alloc (.cells #[.int .i64 a, .int .i64 b, .int .i64 c, .int .i64 d, .slice s l.length m] 26)).alloc (.cells #[.int .i64 a', .int .i64 b', .int .i64 c', .int .i64 d'] 23)).alloc (.cells #[.int .i64 0, .int .i64 0, .int .i64 0, .int .i64 0, .slice none 0 0] 26)) (w.heap.size + 1) ⟨a', b', c', d'⟩ := (Box.freshAt (w.alloc (.cells #[.int .i64 a, .int .i64 b, .int .i64 c, .int .i64 d, .slice s l.length m] 26)) (w.heap.size + 1) (by simp) a' b' c' d' 23).alloc _ _
  have z0 : QBox (((w.alloc (.cells #[.int .i64 a, .int .i64 b, .int .i64 c, .int .i64 d, .slice s l.length m] 26)).alloc (.cells #[.int .i64 a', .int .i64 b', .int .i64 c', .int .i64 d'] 23)).alloc (.cells #[.int .i64 0, .int .i64 0, .int .i64 0, .int .i64 0, .slice none 0 0] 26)) (w.heap.size + 2) ⟨0, 0, 0, 0⟩ (.slice none 0 0) := QBox.freshAt ((w.alloc (.cells #[.int .i64 a, .int .i64 b, .int .i64 c, .int .i64 d, .slice s l.length m] 26)).alloc (.cells #[.int .i64 a', .int .i64 b', .int .i64 c', .int .i64 d'] 23)) (w.heap.size + 2) (by simp) 0 0 0 0 none 0 0 26
  have B0 : Below w.heap.size w (((w.alloc (.cells #[.int .i64 a, .int .i64 b, .int .i64 c, .int .i64 d, .slice s l.length m] 26)).alloc (.cells #[.int .i64 a', .int .i64 b', .int .i64 c', .int .i64 d'] 23)).alloc (.cells #[.int .i64 0, .int .i64 0, .int .i64 0, .int .i64 0, .slice none 0 0] 26)) := (((Below.refl _ _).alloc (Nat.le_refl _) _).alloc (by simp) _).alloc (by simp; omega) _
  go_enter Try.func46, Try.ntmps46
  go_wp2_with fail
  refine (pv_c _ _ _ _ _ _ _ _).mono ?_
  rintro e w1 ⟨rfl, hb1⟩
  have p1 := p0.below hb1
  have r1 := r0.below hb1
  have z1 := z0.below hb1
  have B1 : Below w.heap.size w w1 := bcall B0 hb1 (by simp; omega)
  clear hb1 p0 r0 z0 B0
  obtain ⟨c0, c1, c2, c3, c4⟩ := p1.open
  obtain ⟨r0, r1', r2', r3'⟩ := r1.open
  obtain ⟨d0, d1, d2, d3, d4⟩ := z1.open
  have g1 := z1.free
  go_wp2_with fail
  refine (valid_c _ _ _ _ _).mono ?_
  rintro e w2 ⟨rfl, hb2⟩
  have p2 := p1.below hb2
  have r2 := r1.below hb2
  have z2 := z1.below hb2
  have B2 : Below w.heap.size w w2 := bcall B1 hb2 (by have := p1.lt; omega)
  clear hb2 p1 r1 z1 B1 c0 c1 c2 c3 c4 r0 r1' r2' r3' d0 d1 d2 d3 d4 g1
  obtain ⟨c0, c1, c2, c3, c4⟩ := p2.open
  obtain ⟨r0, r1', r2', r3'⟩ := r2.open
  obtain ⟨d0, d1, d2, d3, d4⟩ := z2.open
  have g1 := z2.free
  go_wp2_with fail
  refine (cont_c _ _ _ _ _ _ _ _ _).mono ?_
  rintro e w3 ⟨rfl, hb3⟩
  have p3 := p2.below hb3
  have r3 := r2.below hb3
  have z3 := z2.below hb3
  have B3 : Below w.heap.size w w3 := bcall B2 hb3 (by have := p2.lt; omega)
  clear hb3 p2 r2 z2 B2 c0 c1 c2 c3 c4 r0 r1' r2' r3' d0 d1 d2 d3 d4 g1
  obtain ⟨c0, c1, c2, c3, c4⟩ := p3.open
  obtain ⟨r0, r1', r2', r3'⟩ := r3.open
  obtain ⟨d0, d1, d2, d3, d4⟩ := z3.open
  have g1 := z3.free
  go_upto_region 5 with fail
  clear c0 c1 c2 c3 c4 d0 d1 d2 d3 d4 g1
  go_cut [6] (fun s6 wx => ∃ g B : Nat, s6 = .pointer (some ⟨B, 0, none⟩) ∧ Made w w.heap.size ⟨a, b, c, d⟩ (.slice s l.length m) ⟨a', b', c', d'⟩ (List.replicate C 0) C [] wx g B)
  case first =>
    have rA := (r3.alloc #[.int .i64 0, .int .i64 0, .int .i64 0, .int .i64 0, .slice none 0 0] 26).drew
    have pA := (p3.alloc zeroP).drew
    have zA := (z3.alloc zeroP).drew
    have qA := (QBox.fresh w3 0 0 0 0 none 0 0 26).drew
    have BA := (B3.alloc (by have := p3.lt; omega) zeroP).drew
    have hz3 := z3.lt
    go_region_held3 (fun w' => w'.cell? ⟨w.heap.size + 1, 0, none⟩ = some (.int .i64 a') ∧ w'.cell? ⟨w.heap.size + 1, 1, none⟩ = some (.int .i64 b') ∧ w'.cell? ⟨w.heap.size + 1, 2, none⟩ = some (.int .i64 c') ∧ w'.cell? ⟨w.heap.size + 1, 3, none⟩ = some (.int .i64 d'))
      (first | (with_reducible assumption) | with_reducible exact r3.drew.open | with_reducible exact rA.open | with_reducible exact r4.open | with_reducible exact (r4.alloc _ _).open | with_reducible exact ((r4.alloc _ _).alloc _ _).open | with_reducible exact (((r4.alloc _ _).alloc _ _).far5 (by have := r4.lt; omega) _ _ _ _ _).open | with_reducible exact ((r4.alloc _ _).far5 (by omega) _ _ _ _ _).open | with_reducible exact ((r4.far5 (by omega) _ _ _ _ _).alloc _ _).open | fail)
      (first | (go_at_call 106; (with_reducible refine (area_c _ _ _ _ _).mono ?_); rintro e w4 ⟨rfl, hb4⟩; first | (have r4 := r3.drew.below hb4; have p4 := p3.drew.below hb4; have z4 := z3.drew.below hb4; have B4 : Below w.heap.size w w4 := bcall B3.drew hb4 (by have := p3.lt; simp; omega); have q4 := True.intro) | (have r4 := rA.below hb4; have p4 := pA.below hb4; have z4 := zA.below hb4; have q4 := qA.below hb4; obtain ⟨e0, e1, e2, e3, e4⟩ := q4.open; have g3 := q4.free; have l3 := q4.lt; have B4 : Below w.heap.size w w4 := bcall BA hb4 (by have := p3.lt; simp [World.size_alloc]; omega)); obtain ⟨k0, k1, k2, k3⟩ := r4.open; clear hb4))
    all_goals
      go_wp2_with fail
      go_meet
      first
      | with_reducible exact ⟨w4.heap.size, w4.heap.size + 1, rfl, made1 p4 z4 B4 C a' b' c' d'⟩
      | with_reducible exact ⟨w4.heap.size + 1, w4.heap.size, rfl, made2 p4 z4 B4 C a' b' c' d'⟩
      | with_reducible exact ⟨w4.heap.size, w3.heap.size, rfl, made3 (by omega) hz3 p4 z4 q4 B4 C a' b' c' d'⟩
      | fail
  case rest =>
    obtain ⟨g, B, rfl, M⟩ := hcut
    clear p3 r3 z3 B3 r0 r1' r2' r3' hmk
    obtain ⟨c0, c1, c2, c3, c4⟩ := M.p.open
    obtain ⟨d0, d1, d2, d3, d4⟩ := M.part.open
    have eC : (List.replicate C (0 : Int)).length = C := List.length_replicate
    rw [eC] at d4
    go_wp2_with fail
    have ho := over_c a' b' c' d' a b c d g s C m (List.replicate C 0) l [] wc HQ.out hp (Nat.le_of_eq eC) hm M.row (hH.below M.below (Nat.le_refl _)) (fun hl p hp => by have := hH.lt hl p hp; have := M.hg; omega)
    rw [eC] at ho
    refine ho.mono ?_
    rintro e w5 ⟨rfl, hbut, hrow5⟩
    rw [HC.out] at hrow5
    have hgz := M.hg
    have hBz := M.hB
    have part5 := M.part.but hbut M.hne.symm
    have z5 := M.z.but hbut (by omega)
    have B5 := But.below M.below hbut (by omega)
    have hlen : (cropL ⟨a, b, c, d⟩ l ⟨a', b', c', d'⟩).length = C := by rw [← HC.out, pasteL, tabL_len, ← pv_len HQ.out, eC]
    have HR : Hid _ := hrow5
    have HLen : Hid _ := hlen
    rw [eC] at part5
    clear c0 c1 c2 c3 c4 d0 d1 d2 d3 d4 ho hrow5 hlen hbut M
    obtain ⟨d0, d1, d2, d3, d4⟩ := part5.open
    obtain ⟨e0, e1, e2, e3, e4⟩ := z5.open
    have g5 := z5.free
    have z5l := z5.lt
    go_wp2
    refine bodyPost_ret (v := .tuple #[.agg #[.int .i64 a', .int .i64 b', .int .i64 c', .int .i64 d', .slice (some ⟨g, 0, none⟩) C C], .int .i64 0]) ?_ rfl ?_
    · obtain ⟨q0, q1, q2, q3, q4⟩ := (z5.store a' b' c' d' (.slice (some ⟨g, 0, none⟩) C C)).open
      simp [results, Try.results46, go_sem, q0, q1, q2, q3, q4]
    · have hrw : RowP w5 g (cropL ⟨a, b, c, d⟩ l ⟨a', b', c', d'⟩) [] := HR.out
      exact ⟨some ⟨g, 0, none⟩, C, by rw [HLen.out], (hrw.far5 (by omega) _ _ _ _ _).holds, below5 B5 (by omega) _ _ _ _ _, Nat.le_of_eq HLen.out⟩
end Go.Proofs.Ytoplgnckdmkaoaa

namespace Go.Proofs.Ytoplgnckdmkaoaa
open Go.RowKit

/-- A row of the call's own. -/
theorem rowP_own {w : World} {base n : Nat} {v : Value} {l : List Int} (h : w.ownsRow base 3 1 v n (l.map (Value.int .i64))) :
    n = l.length ∧ ((v = .slice none 0 0 ∧ l = []) ∨ ∃ g m pad, v = .slice (some ⟨g, 0, none⟩) l.length m ∧ base ≤ g ∧ RowP w g l pad ∧ l.length ≤ m) := by
  obtain ⟨h1, h2⟩ := h
  have hn : n = l.length := by simpa using h1.symm
  subst hn
  refine ⟨rfl, ?_⟩
  rcases h2 with ⟨rfl, h0⟩ | ⟨g, cap, cur, rfl, hb, hg, hc, _, hs, ht⟩
  · exact .inl ⟨rfl, List.length_eq_zero_iff.1 h0⟩
  · refine .inr ⟨g, cap, cur.toList.drop l.length, rfl, hb, ?_, hc⟩
    unfold RowP
    rw [Nat.mul_one] at ht
    rw [← ht, List.take_append_drop, Array.toArray_toList]
    exact hg
theorem holdsI_list {w : World} {p : Addr} {l : List Int} (h : HoldsI w (some p) l) : ∀ j u, (l.map (Value.int .i64))[j]? = some u → w.cell? (p.add j) = some u := by
  rcases h with rfl | ⟨b, off, e, hr⟩
  · intro j u hj; simp at hj
  · simp at e; subst e
    have := holdsI_part (.inr ⟨b, off, rfl, hr⟩ : HoldsI w (some ⟨b, off, none⟩) l) 0 l.length (by omega)
    simpa using this
/-- A list of the call's own, or nothing. -/
def GivesRow (l : List Int) (w : World) (e : Ending) (w' : World) : Prop :=
  Below w.heap.size w w' ∧ ∃ s m, e = .returned (.slice s l.length m) ∧ l.length ≤ m ∧ (l = [] ∨ ∃ g pad, s = some ⟨g, 0, none⟩ ∧ w.heap.size ≤ g ∧ RowP w' g l pad)
set_option maxHeartbeats 1000000 in
theorem clone_c (s : Option Addr) (m : Nat) (l : List Int) (w : World) (hl : l.length ≤ 1048576) (hH : HoldsI w s l) (hs : s = none → l.length = 0 ∧ m = 0) :
    Calls Try.prog 119 #[.slice s l.length m] w (GivesRow l w) := by
  obtain ⟨i0, hi, hz0, hz1, hz2⟩ := info_parts infoI
  have hnil := fun (W : World) (a : Option Addr) (n c : Nat) => Lib.run_eql_slice_nil (P := Try.prog) W 24 3 a n c 0 0 Try.underlying24
  cases s with
  | none =>
    obtain ⟨h0, h1⟩ := hs rfl
    obtain rfl := List.length_eq_zero_iff.1 h0
    subst h1
    go_enter Try.func119, Try.ntmps119
    go_wp2
    go_ret
    exact ⟨Below.refl _ _, none, 0, rfl, Nat.le_refl _, .inl rfl⟩
  | some p =>
    have hnews := holdsI_list hH
    have HN : Hid _ := hnews
    go_enter Try.func119, Try.ntmps119
    go_wp2_with (first | (at_builtin; refine wpList_append_own _ rfl _ _ 24 rfl w.heap.size 3 i0 (.int .i64 0) 1 8 Try.underlying24 hi hz0 hz1 hz2 rfl (by decide) _ 0 [] rfl (World.ownsRow_made w #[] 0 (Nat.le_refl _) (by decide) (by simp)) p l.length m (l.map (Value.int .i64)) rfl (by simp) ?c1 (oneI _) (by unfold maxLen; omega) (by omega) (by simp) ?_))
    case c1 => exact holdsI_list (hH.below ((Below.refl _ _).alloc (Nat.le_refl _) _) (Nat.le_refl _))
    intro v' w' hown hgrow _
    have B1 : Below w.heap.size w w' := (((Below.refl _ w).alloc (Nat.le_refl _) _).grown hgrow (by simp) (fun k hk => by simp [Value.ownBlock] at hk; omega))
    obtain ⟨s', m', rfl, hm', hres⟩ : ∃ s' m', v' = .slice s' l.length m' ∧ l.length ≤ m' ∧ (l = [] ∨ ∃ g pad, s' = some ⟨g, 0, none⟩ ∧ w.heap.size ≤ g ∧ RowP w' g l pad) := by
      obtain ⟨_, (⟨rfl, rfl⟩ | ⟨g, mm, pad, rfl, hb, hrow, hm⟩)⟩ := rowP_own hown
      · exact ⟨none, 0, rfl, Nat.le_refl _, .inl rfl⟩
      · exact ⟨_, mm, rfl, hm, .inr ⟨g, pad, rfl, hb, hrow⟩⟩
    have HR : Hid _ := hres
    clear hown hgrow hnews HN hres
    go_wp2
    go_ret
    exact ⟨B1, s', m', rfl, hm', HR.out⟩
set_option maxRecDepth 100000 in
set_option maxHeartbeats 1000000 in
theorem paste_no1 (a b c d a' b' c' d' : Int) (s t : Option Addr) (m m' : Nat) (l k : List Int) (w : World) (hp : pvB a b c d l.length = false) :
    Calls Try.prog 59 #[.agg #[.int .i64 a, .int .i64 b, .int .i64 c, .int .i64 d, .slice s l.length m], .agg #[.int .i64 a', .int .i64 b', .int .i64 c', .int .i64 d', .slice t k.length m']] w (GivesPlane ⟨0, 0, 0, 0⟩ [] 1 w) := by
  have p0 : QBox (((w.alloc (.cells #[.int .i64 a, .int .i64 b, .int .i64 c, .int .i64 d, .slice s l.length m] 26)).alloc (.cells #[.int .i64 a', .int .i64 b', .int .i64 c', .int .i64 d', .slice t k.length m'] 26)).alloc (.cells #[.int .i64 0, .int .i64 0, .int .i64 0, .int .i64 0, .slice none 0 0] 26)) w.heap.size ⟨a, b, c, d⟩ (.slice s l.length m) := ((QBox.fresh w a b c d s l.length m 26).alloc _).alloc _
  have r0 : QBox (((w.alloc (.cells #[.int .i64 a, .int .i64 b, .int .i64 c, .int .i64 d, .slice s l.length m] 26)).alloc (.cells #[.int .i64 a', .int .i64 b', .int .i64 c', .int .i64 d', .slice t k.length m'] 26)).alloc (.cells #[.int .i64 0, .int .i64 0, .int .i64 0, .int .i64 0, .slice none 0 0] 26)) (w.heap.size + 1) ⟨a', b', c', d'⟩ (.slice t k.length m') := (QBox.freshAt (w.alloc (.cells #[.int .i64 a, .int .i64 b, .int .i64 c, .int .i64 d, .slice s l.length m] 26)) (w.heap.size + 1) (by simp) a' b' c' d' t k.length m' 26).alloc _
  have z0 : QBox (((w.alloc (.cells #[.int .i64 a, .int .i64 b, .int .i64 c, .int .i64 d, .slice s l.length m] 26)).alloc (.cells #[.int .i64 a', .int .i64 b', .int .i64 c', .int .i64 d', .slice t k.length m'] 26)).alloc (.cells #[.int .i64 0, .int .i64 0, .int .i64 0, .int .i64 0, .slice none 0 0] 26)) (w.heap.size + 2) ⟨0, 0, 0, 0⟩ (.slice none 0 0) := QBox.freshAt ((w.alloc (.cells #[.int .i64 a, .int .i64 b, .int .i64 c, .int .i64 d, .slice s l.length m] 26)).alloc (.cells #[.int .i64 a', .int .i64 b', .int .i64 c', .int .i64 d', .slice t k.length m'] 26)) (w.heap.size + 2) (by simp) 0 0 0 0 none 0 0 26
  have B0 : Below w.heap.size w (((w.alloc (.cells #[.int .i64 a, .int .i64 b, .int .i64 c, .int .i64 d, .slice s l.length m] 26)).alloc (.cells #[.int .i64 a', .int .i64 b', .int .i64 c', .int .i64 d', .slice t k.length m'] 26)).alloc (.cells #[.int .i64 0, .int .i64 0, .int .i64 0, .int .i64 0, .slice none 0 0] 26)) := (((Below.refl _ _).alloc (Nat.le_refl _) _).alloc (by simp) _).alloc (by simp; omega) _
  go_enter Try.func59, Try.ntmps59
  go_wp2_with fail
  refine (pv_c _ _ _ _ _ _ _ _).mono ?_
  rintro e w1 ⟨rfl, hb1⟩
  have p1 := p0.below hb1
  have r1 := r0.below hb1
  have z1 := z0.below hb1
  have B1 : Below w.heap.size w w1 := bcall B0 hb1 (by simp; omega)
  clear hb1 p0 r0 z0 B0
  obtain ⟨c0, c1, c2, c3, c4⟩ := p1.open
  obtain ⟨r0, r1', r2', r3', r4'⟩ := r1.open
  obtain ⟨d0, d1, d2, d3, d4⟩ := z1.open
  have g1 := z1.free
  go_wp2
  refine bodyPost_ret (v := .tuple #[.agg #[.int .i64 0, .int .i64 0, .int .i64 0, .int .i64 0, .slice none 0 0], .int .i64 1]) ?_ rfl ?_
  · simp [results, Try.results59, go_sem, d0, d1, d2, d3, d4]
  · exact ⟨none, 0, rfl, .inl rfl, below5 B1 (by omega) _ _ _ _ _, Nat.le_refl _⟩
set_option maxRecDepth 100000 in
set_option maxHeartbeats 1000000 in
theorem paste_no2 (a b c d a' b' c' d' : Int) (s t : Option Addr) (m m' : Nat) (l k : List Int) (w : World) (hp : pvB a b c d l.length = true) (hq : pvB a' b' c' d' k.length = false) :
    Calls Try.prog 59 #[.agg #[.int .i64 a, .int .i64 b, .int .i64 c, .int .i64 d, .slice s l.length m], .agg #[.int .i64 a', .int .i64 b', .int .i64 c', .int .i64 d', .slice t k.length m']] w (GivesPlane ⟨0, 0, 0, 0⟩ [] 1 w) := by
  have p0 : QBox (((w.alloc (.cells #[.int .i64 a, .int .i64 b, .int .i64 c, .int .i64 d, .slice s l.length m] 26)).alloc (.cells #[.int .i64 a', .int .i64 b', .int .i64 c', .int .i64 d', .slice t k.length m'] 26)).alloc (.cells #[.int .i64 0, .int .i64 0, .int .i64 0, .int .i64 0, .slice none 0 0] 26)) w.heap.size ⟨a, b, c, d⟩ (.slice s l.length m) := ((QBox.fresh w a b c d s l.length m 26).alloc _).alloc _
  have r0 : QBox (((w.alloc (.cells #[.int .i64 a, .int .i64 b, .int .i64 c, .int .i64 d, .slice s l.length m] 26)).alloc (.cells #[.int .i64 a', .int .i64 b', .int .i64 c', .int .i64 d', .slice t k.length m'] 26)).alloc (.cells #[.int .i64 0, .int .i64 0, .int .i64 0, .int .i64 0, .slice none 0 0] 26)) (w.heap.size + 1) ⟨a', b', c', d'⟩ (.slice t k.length m') := (QBox.freshAt (w.alloc (.cells #[.int .i64 a, .int .i64 b, .int .i64 c, .int .i64 d, .slice s l.length m] 26)) (w.heap.size + 1) (by simp) a' b' c' d' t k.length m' 26).alloc _
  have z0 : QBox (((w.alloc (.cells #[.int .i64 a, .int .i64 b, .int .i64 c, .int .i64 d, .slice s l.length m] 26)).alloc (.cells #[.int .i64 a', .int .i64 b', .int .i64 c', .int .i64 d', .slice t k.length m'] 26)).alloc (.cells #[.int .i64 0, .int .i64 0, .int .i64 0, .int .i64 0, .slice none 0 0] 26)) (w.heap.size + 2) ⟨0, 0, 0, 0⟩ (.slice none 0 0) := QBox.freshAt ((w.alloc (.cells #[.int .i64 a, .int .i64 b, .int .i64 c, .int .i64 d, .slice s l.length m] 26)).alloc (.cells #[.int .i64 a', .int .i64 b', .int .i64 c', .int .i64 d', .slice t k.length m'] 26)) (w.heap.size + 2) (by simp) 0 0 0 0 none 0 0 26
  have B0 : Below w.heap.size w (((w.alloc (.cells #[.int .i64 a, .int .i64 b, .int .i64 c, .int .i64 d, .slice s l.length m] 26)).alloc (.cells #[.int .i64 a', .int .i64 b', .int .i64 c', .int .i64 d', .slice t k.length m'] 26)).alloc (.cells #[.int .i64 0, .int .i64 0, .int .i64 0, .int .i64 0, .slice none 0 0] 26)) := (((Below.refl _ _).alloc (Nat.le_refl _) _).alloc (by simp) _).alloc (by simp; omega) _
  go_enter Try.func59, Try.ntmps59
  go_wp2_with fail
  refine (pv_c _ _ _ _ _ _ _ _).mono ?_
  rintro e w1 ⟨rfl, hb1⟩
  have p1 := p0.below hb1
  have r1 := r0.below hb1
  have z1 := z0.below hb1
  have B1 : Below w.heap.size w w1 := bcall B0 hb1 (by simp; omega)
  clear hb1 p0 r0 z0 B0
  obtain ⟨c0, c1, c2, c3, c4⟩ := p1.open
  obtain ⟨r0, r1', r2', r3', r4'⟩ := r1.open
  obtain ⟨d0, d1, d2, d3, d4⟩ := z1.open
  have g1 := z1.free
  go_wp2_with fail
  refine (pv_c _ _ _ _ _ _ _ _).mono ?_
  rintro e w2 ⟨rfl, hb2⟩
  have p2 := p1.below hb2
  have r2 := r1.below hb2
  have z2 := z1.below hb2
  have B2 : Below w.heap.size w w2 := bcall B1 hb2 (by have := p1.lt; omega)
  clear hb2 p1 r1 z1 B1 c0 c1 c2 c3 c4 r0 r1' r2' r3' r4' d0 d1 d2 d3 d4 g1
  obtain ⟨c0, c1, c2, c3, c4⟩ := p2.open
  obtain ⟨r0, r1', r2', r3', r4'⟩ := r2.open
  obtain ⟨d0, d1, d2, d3, d4⟩ := z2.open
  have g1 := z2.free
  go_wp2
  refine bodyPost_ret (v := .tuple #[.agg #[.int .i64 0, .int .i64 0, .int .i64 0, .int .i64 0, .slice none 0 0], .int .i64 1]) ?_ rfl ?_
  · simp [results, Try.results59, go_sem, d0, d1, d2, d3, d4]
  · exact ⟨none, 0, rfl, .inl rfl, below5 B2 (by omega) _ _ _ _ _, Nat.le_refl _⟩
/-- A plane of the call's own, perhaps empty, stands in its variable. -/
structure Made2 (w : World) (P : Nat) (rp : Pl.R) (vp : Value) (q : Pl.R) (L : List Int) (W : World) (s' : Option Addr) (cap : Nat) (B : Nat) : Prop where
  p : QBox W P rp vp
  z : QBox W (w.heap.size + 2) ⟨0, 0, 0, 0⟩ (.slice none 0 0)
  part : QBox W B q (.slice s' L.length cap)
  row : L = [] ∨ ∃ g pad, s' = some ⟨g, 0, none⟩ ∧ RowP W g L pad ∧ w.heap.size + 2 < g ∧ g ≠ B
  below : Below w.heap.size w W
  hB : w.heap.size + 2 < B
  hcap : L.length ≤ cap
theorem madeA {w w4 : World} {P : Nat} {rp : Pl.R} {vp : Value} {L : List Int} {s' : Option Addr} {n cap : Nat} (p4 : QBox w4 P rp vp) (z4 : QBox w4 (w.heap.size + 2) ⟨0, 0, 0, 0⟩ (.slice none 0 0)) (B4 : Below w.heap.size w w4) (hz3 : w.heap.size + 2 < n)
    (hrow : L = [] ∨ ∃ g pad, s' = some ⟨g, 0, none⟩ ∧ n ≤ g ∧ RowP w4 g L pad) (hcap : L.length ≤ cap) (a b c d : Int) :
    Made2 w P rp vp ⟨a, b, c, d⟩ L (w4.alloc (.cells #[.int .i64 a, .int .i64 b, .int .i64 c, .int .i64 d, .slice s' L.length cap] 26)) s' cap w4.heap.size := by
  have hz := z4.lt
  refine ⟨p4.alloc _, z4.alloc _, QBox.fresh w4 a b c d s' L.length cap 26, ?_, B4.alloc (by omega) _, hz, hcap⟩
  rcases hrow with h | ⟨g, pad, e, hg, hr⟩
  · exact .inl h
  · exact .inr ⟨g, pad, e, hr.below ((Below.refl _ _).alloc (Nat.le_refl _) _), by omega, Nat.ne_of_lt hr.lt⟩
theorem madeB {w w4 : World} {P B : Nat} {rp : Pl.R} {vp : Value} {L : List Int} {s' : Option Addr} {n cap : Nat} (hP : P < w.heap.size + 2) (hB : w.heap.size + 2 < B) (p4 : QBox w4 P rp vp) (z4 : QBox w4 (w.heap.size + 2) ⟨0, 0, 0, 0⟩ (.slice none 0 0)) (q4 : QBox w4 B ⟨0, 0, 0, 0⟩ (.slice none 0 0)) (B4 : Below w.heap.size w w4) (hn : B < n)
    (hrow : L = [] ∨ ∃ g pad, s' = some ⟨g, 0, none⟩ ∧ n ≤ g ∧ RowP w4 g L pad) (hcap : L.length ≤ cap) (a b c d : Int) :
    Made2 w P rp vp ⟨a, b, c, d⟩ L (((((w4.setCell ⟨B, 0, none⟩ (.int .i64 a)).setCell ⟨B, 1, none⟩ (.int .i64 b)).setCell ⟨B, 2, none⟩ (.int .i64 c)).setCell ⟨B, 3, none⟩ (.int .i64 d)).setCell ⟨B, 4, none⟩ (.slice s' L.length cap)) s' cap B := by
  have hz := z4.lt
  refine ⟨p4.far5 (by omega) _ _ _ _ _, z4.far5 (by omega) _ _ _ _ _, q4.store a b c d _, ?_, below5 B4 (by omega) _ _ _ _ _, hB, hcap⟩
  rcases hrow with h | ⟨g, pad, e, hg, hr⟩
  · exact .inl h
  · exact .inr ⟨g, pad, e, hr.far5 (by omega) _ _ _ _ _, by omega, by omega⟩
theorem over_m {a b c d a' b' c' d' : Int} {t s' : Option Addr} {m' cap B : Nat} {l k : List Int} {w wc : World} (M : Made2 w (w.heap.size + 1) ⟨a', b', c', d'⟩ (.slice t k.length m') ⟨a, b, c, d⟩ l wc s' cap B)
    (hp : pvB a b c d l.length = true) (hq : pvB a' b' c' d' k.length = true) (hm' : k.length ≤ m') (hK : HoldsI w t k) :
    Calls Try.prog 107 #[.agg #[.int .i64 a, .int .i64 b, .int .i64 c, .int .i64 d, .slice s' l.length cap], .agg #[.int .i64 a', .int .i64 b', .int .i64 c', .int .i64 d', .slice t k.length m']] wc fun e w5 => e = .returned (.tuple #[]) ∧ QBox w5 B ⟨a, b, c, d⟩ (.slice s' l.length cap) ∧ QBox w5 (w.heap.size + 2) ⟨0, 0, 0, 0⟩ (.slice none 0 0) ∧ Below w.heap.size w w5 ∧
      (pasteL ⟨a, b, c, d⟩ l ⟨a', b', c', d'⟩ k = [] ∨ ∃ g pad, s' = some ⟨g, 0, none⟩ ∧ RowP w5 g (pasteL ⟨a, b, c, d⟩ l ⟨a', b', c', d'⟩ k) pad ∧ w.heap.size + 2 < g) := by
  have hz := M.z.lt
  rcases M.row with hl0 | ⟨g, pad, rfl, hrow, hg, hne⟩
  · have hn : pasteL ⟨a, b, c, d⟩ l ⟨a', b', c', d'⟩ k = [] := List.length_eq_zero_iff.1 (by rw [pasteL, tabL_len, ← pv_len hp, hl0]; rfl)
    have he : Pl.emptyB (max a a') (max b b') (min c c') (min d d') = true := by
      refine Classical.byContradiction fun h => ?_
      obtain ⟨h1, h2⟩ := Pl.empty_not.1 (by simpa using h)
      have := ov_fit hp (show a ≤ max a a' by omega) h1 (show min c c' ≤ c by omega) (show b ≤ max b b' by omega) (show max b b' < d by omega)
      rw [hl0] at this
      simp at this
      omega
    refine (over_no a b c d a' b' c' d' _ _ _ _ l k wc he).mono ?_
    rintro e w5 ⟨rfl, hb⟩
    exact ⟨rfl, M.part.below hb, M.z.below hb, bcall M.below hb (by omega), .inl hn⟩
  · refine (over_c a b c d a' b' c' d' g t cap m' l k pad wc hp hq M.hcap hm' hrow (hK.below M.below (Nat.le_refl _)) (fun hl p hp => by have := hK.lt hl p hp; omega)).mono ?_
    rintro e w5 ⟨rfl, hbut, hr5⟩
    exact ⟨rfl, M.part.but hbut hne.symm, M.z.but hbut (by omega), But.below M.below hbut (by omega), .inr ⟨g, pad, rfl, hr5, hg⟩⟩
set_option maxRecDepth 100000 in
set_option maxHeartbeats 1000000 in
theorem paste_yes (a b c d a' b' c' d' : Int) (s t : Option Addr) (m m' : Nat) (l k : List Int) (w : World) (hp : pvB a b c d l.length = true) (hq : pvB a' b' c' d' k.length = true) (hm' : k.length ≤ m') (hH : HoldsI w s l) (hs : s = none → l.length = 0 ∧ m = 0) (hK : HoldsI w t k) :
    Calls Try.prog 59 #[.agg #[.int .i64 a, .int .i64 b, .int .i64 c, .int .i64 d, .slice s l.length m], .agg #[.int .i64 a', .int .i64 b', .int .i64 c', .int .i64 d', .slice t k.length m']] w (GivesPlane ⟨a, b, c, d⟩ (pasteL ⟨a, b, c, d⟩ l ⟨a', b', c', d'⟩ k) 0 w) := by
  obtain ⟨hpv, hpa, hpn⟩ := pv_iff.1 hp
  have hl1 : l.length ≤ 1048576 := by omega
  clear hpa hpn
  have p0 : QBox (((w.alloc (.cells #[.int .i64 a, .int .i64 b, .int .i64 c, .int .i64 d, .slice s l.length m] 26)).alloc (.cells #[.int .i64 a', .int .i64 b', .int .i64 c', .int .i64 d', .slice t k.length m'] 26)).alloc (.cells #[.int .i64 0, .int .i64 0, .int .i64 0, .int .i64 0, .slice none 0 0] 26)) w.heap.size ⟨a, b, c, d⟩ (.slice s l.length m) := ((QBox.fresh w a b c d s l.length m 26).alloc _).alloc _
  have r0 : QBox (((w.alloc (.cells #[.int .i64 a, .int .i64 b, .int .i64 c, .int .i64 d, .slice s l.length m] 26)).alloc (.cells #[.int .i64 a', .int .i64 b', .int .i64 c', .int .i64 d', .slice t k.length m'] 26)).alloc (.cells #[.int .i64 0, .int .i64 0, .int .i64 0, .int .i64 0, .slice none 0 0] 26)) (w.heap.size + 1) ⟨a', b', c', d'⟩ (.slice t k.length m') := (QBox.freshAt (w.alloc (.cells #[.int .i64 a, .int .i64 b, .int .i64 c, .int .i64 d, .slice s l.length m] 26)) (w.heap.size + 1) (by simp) a' b' c' d' t k.length m' 26).alloc _
  have z0 : QBox (((w.alloc (.cells #[.int .i64 a, .int .i64 b, .int .i64 c, .int .i64 d, .slice s l.length m] 26)).alloc (.cells #[.int .i64 a', .int .i64 b', .int .i64 c', .int .i64 d', .slice t k.length m'] 26)).alloc (.cells #[.int .i64 0, .int .i64 0, .int .i64 0, .int .i64 0, .slice none 0 0] 26)) (w.heap.size + 2) ⟨0, 0, 0, 0⟩ (.slice none 0 0) := QBox.freshAt ((w.alloc (.cells #[.int .i64 a, .int .i64 b, .int .i64 c, .int .i64 d, .slice s l.length m] 26)).alloc (.cells #[.int .i64 a', .int .i64 b', .int .i64 c', .int .i64 d', .slice t k.length m'] 26)) (w.heap.size + 2) (by simp) 0 0 0 0 none 0 0 26
  have B0 : Below w.heap.size w (((w.alloc (.cells #[.int .i64 a, .int .i64 b, .int .i64 c, .int .i64 d, .slice s l.length m] 26)).alloc (.cells #[.int .i64 a', .int .i64 b', .int .i64 c', .int .i64 d', .slice t k.length m'] 26)).alloc (.cells #[.int .i64 0, .int .i64 0, .int .i64 0, .int .i64 0, .slice none 0 0] 26)) := (((Below.refl _ _).alloc (Nat.le_refl _) _).alloc (by simp) _).alloc (by simp; omega) _
  go_enter Try.func59, Try.ntmps59
  go_wp2_with fail
  refine (pv_c _ _ _ _ _ _ _ _).mono ?_
  rintro e w1 ⟨rfl, hb1⟩
  have p1 := p0.below hb1
  have r1 := r0.below hb1
  have z1 := z0.below hb1
  have B1 : Below w.heap.size w w1 := bcall B0 hb1 (by simp; omega)
  clear hb1 p0 r0 z0 B0
  obtain ⟨c0, c1, c2, c3, c4⟩ := p1.open
  obtain ⟨r0, r1', r2', r3', r4'⟩ := r1.open
  obtain ⟨d0, d1, d2, d3, d4⟩ := z1.open
  have g1 := z1.free
  go_wp2_with fail
  refine (pv_c _ _ _ _ _ _ _ _).mono ?_
  rintro e w2 ⟨rfl, hb2⟩
  have p2 := p1.below hb2
  have r2 := r1.below hb2
  have z2 := z1.below hb2
  have B2 : Below w.heap.size w w2 := bcall B1 hb2 (by have := p1.lt; omega)
  clear hb2 p1 r1 z1 B1 c0 c1 c2 c3 c4 r0 r1' r2' r3' r4' d0 d1 d2 d3 d4 g1
  obtain ⟨c0, c1, c2, c3, c4⟩ := p2.open
  obtain ⟨r0, r1', r2', r3', r4'⟩ := r2.open
  obtain ⟨d0, d1, d2, d3, d4⟩ := z2.open
  have g1 := z2.free
  go_upto_region 3 with fail
  clear r0 r1' r2' r3' r4' d0 d1 d2 d3 d4 g1
  go_cut [6] (fun s6 wx => ∃ (s' : Option Addr) (cap B : Nat), s6 = .pointer (some ⟨B, 0, none⟩) ∧ Made2 w (w.heap.size + 1) ⟨a', b', c', d'⟩ (.slice t k.length m') ⟨a, b, c, d⟩ l wx s' cap B)
  case first =>
    have pA := (p2.alloc zeroP).drew
    have rA := (r2.alloc zeroP).drew
    have zA := (z2.alloc zeroP).drew
    have qA := (QBox.fresh w2 0 0 0 0 none 0 0 26).drew
    have BA := (B2.alloc (by have := p2.lt; omega) zeroP).drew
    have HA := hH.below BA (Nat.le_refl _)
    have HB := hH.below B2.drew (Nat.le_refl _)
    have hz3 := z2.lt
    have hz3' : w.heap.size + 2 < w2.drew.heap.size := hz3
    go_region_held3 (fun w' => w'.cell? ⟨w.heap.size, 0, none⟩ = some (.int .i64 a) ∧ w'.cell? ⟨w.heap.size, 1, none⟩ = some (.int .i64 b) ∧ w'.cell? ⟨w.heap.size, 2, none⟩ = some (.int .i64 c) ∧ w'.cell? ⟨w.heap.size, 3, none⟩ = some (.int .i64 d) ∧ w'.cell? ⟨w.heap.size, 4, none⟩ = some (.slice s l.length m))
      (first | (with_reducible assumption) | with_reducible exact p2.drew.open | with_reducible exact pA.open | with_reducible exact p4.open | with_reducible exact (p4.alloc _).open | with_reducible exact (p4.far5 (by omega) _ _ _ _ _).open | fail)
      (first | (go_at_call 119; first | ((with_reducible refine (clone_c _ _ l _ hl1 HB hs).mono ?_); rintro e w4 ⟨hb4, s', cap, rfl, hcap, hrow⟩; have r4 := r2.drew.below hb4; have p4 := p2.drew.below hb4; have z4 := z2.drew.below hb4; have B4 : Below w.heap.size w w4 := bcall B2.drew hb4 (by have := p2.lt; simp; omega); have q4 := True.intro) | ((with_reducible refine (clone_c _ _ l _ hl1 HA hs).mono ?_); rintro e w4 ⟨hb4, s', cap, rfl, hcap, hrow⟩; have r4 := rA.below hb4; have p4 := pA.below hb4; have z4 := zA.below hb4; have q4 := qA.below hb4; obtain ⟨e0, e1, e2, e3, e4⟩ := q4.open; have g3 := q4.free; have l3 := q4.lt; have B4 : Below w.heap.size w w4 := bcall BA hb4 (by have := p2.lt; simp [World.size_alloc]; omega)); obtain ⟨k0, k1, k2, k3, k4⟩ := p4.open; clear hb4))
    · go_wp2_with fail
      go_meet
      exact ⟨s', cap, w4.heap.size, rfl, madeA (n := w2.drew.heap.size) r4 z4 B4 hz3' hrow hcap a b c d⟩
    · go_wp2_with fail
      go_meet
      exact ⟨s', cap, w2.heap.size, rfl, madeB (n := (w2.alloc zeroP).drew.heap.size) (by omega) hz3 r4 z4 q4 B4 (by simp) hrow hcap a b c d⟩
  case rest =>
    obtain ⟨s', cap, B, rfl, M⟩ := hcut
    clear p2 r2 z2 B2 c0 c1 c2 c3 c4
    obtain ⟨c0, c1, c2, c3, c4⟩ := M.p.open
    obtain ⟨d0, d1, d2, d3, d4⟩ := M.part.open
    go_wp2_with fail
    refine (over_m M hp hq hm' hK).mono ?_
    rintro e w5 ⟨rfl, part5, z5, B5, hrow5⟩
    have HR : Hid _ := hrow5
    have hlen : (pasteL ⟨a, b, c, d⟩ l ⟨a', b', c', d'⟩ k).length = l.length := by rw [pasteL, tabL_len, ← pv_len hp]
    have HLen : Hid _ := hlen
    have hBz := M.hB
    have hcap := M.hcap
    clear c0 c1 c2 c3 c4 d0 d1 d2 d3 d4 hrow5 hlen M
    obtain ⟨d0, d1, d2, d3, d4⟩ := part5.open
    obtain ⟨e0, e1, e2, e3, e4⟩ := z5.open
    have g5 := z5.free
    have z5l := z5.lt
    go_wp2
    refine bodyPost_ret (v := .tuple #[.agg #[.int .i64 a, .int .i64 b, .int .i64 c, .int .i64 d, .slice s' l.length cap], .int .i64 0]) ?_ rfl ?_
    · obtain ⟨q0, q1, q2, q3, q4⟩ := (z5.store a b c d (.slice s' l.length cap)).open
      simp [results, Try.results59, go_sem, q0, q1, q2, q3, q4]
    · refine ⟨s', cap, by rw [HLen.out], ?_, below5 B5 (by omega) _ _ _ _ _, by rw [HLen.out]; exact hcap⟩
      rcases HR.out with h | ⟨g, pad, rfl, hr, hg⟩
      · exact .inl h
      · exact (hr.far5 (by omega) _ _ _ _ _).holds
end Go.Proofs.Ytoplgnckdmkaoaa
