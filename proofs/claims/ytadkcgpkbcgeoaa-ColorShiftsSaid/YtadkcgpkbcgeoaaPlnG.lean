/-
  What each call of overlay on planes leaves: contracts.
-/
import Derived.Test.YtadkcgpkbcgeoaaPlnF
set_option maxRecDepth 100000
namespace Go.Proofs.Ytadkcgpkbcgeoaa
open Go.RowKit

/-- A block that is a row of integers, and room behind them. -/
def RowP (w : World) (g : Nat) (l : List Int) (pad : List Value) : Prop := w.heap[g]? = some (.cells (l.map (Value.int .i64) ++ pad).toArray 3 (0, 0))
theorem RowP.lt {w : World} {g : Nat} {l : List Int} {pad : List Value} (h : RowP w g l pad) : g < w.heap.size := by
  unfold RowP at h
  exact (Array.getElem?_eq_some_iff.1 h).1
theorem RowP.holds {w : World} {g : Nat} {l : List Int} {pad : List Value} (h : RowP w g l pad) : HoldsI w (some ⟨g, 0, none⟩) l := by
  refine .inr ⟨g, 0, rfl, fun k hk => ?_⟩
  unfold RowP at h
  have e : (List.map (Value.int .i64) l ++ pad)[k]? = some (.int .i64 l[k]) := by rw [List.getElem?_append_left (by simpa using hk)]; simp [hk]
  simp [World.cell?, h, e]
theorem RowP.belowAt {B : Nat} {w w1 : World} {g : Nat} {l : List Int} {pad : List Value} (h : RowP w g l pad) (hb : Below B w w1) (hg : g < B) : RowP w1 g l pad := (hb.block g hg).trans h
theorem RowP.below {w w1 : World} {g : Nat} {l : List Int} {pad : List Value} (h : RowP w g l pad) (hb : Below w.heap.size w w1) : RowP w1 g l pad := h.belowAt hb h.lt
theorem RowP.of {w : World} {g : Nat} {l : List Int} (h : RowAt w g l) : RowP w g l [] := by
  unfold RowP; rw [List.append_nil]; exact h
theorem RowP.out {w : World} {g : Nat} {l : List Int} (h : RowP w g l []) : RowAt w g l := by
  unfold RowP at h; rw [List.append_nil] at h; exact h
/-- All blocks but one are as they were. -/
structure But (g : Nat) (w w' : World) : Prop where
  os : w'.os = w.os
  tape : w'.tape = w.tape
  output : w'.output = w.output
  size : w.heap.size ≤ w'.heap.size
  block : ∀ k, k < w.heap.size → k ≠ g → w'.heap[k]? = w.heap[k]?
theorem But.of {g : Nat} {w w1 : World} (h : Below w.heap.size w w1) : But g w w1 := ⟨h.os, h.tape, h.output, h.size, fun k hk _ => h.block k hk⟩
theorem But.step {g : Nat} {w w1 w2 : World} (h : But g w w1) (hb : Below w1.heap.size w1 w2) : But g w w2 :=
  ⟨hb.os.trans h.os, hb.tape.trans h.tape, hb.output.trans h.output, Nat.le_trans h.size hb.size, fun k hk hn => (hb.block k (Nat.lt_of_lt_of_le hk h.size)).trans (h.block k hk hn)⟩
theorem But.trans {g : Nat} {w w1 w2 : World} (h : But g w w1) (h2 : But g w1 w2) : But g w w2 :=
  ⟨h2.os.trans h.os, h2.tape.trans h.tape, h2.output.trans h.output, Nat.le_trans h.size h2.size, fun k hk hn => (h2.block k (Nat.lt_of_lt_of_le hk h.size) hn).trans (h.block k hk hn)⟩
theorem But.below {g : Nat} {w w1 w2 : World} (h : Below w.heap.size w w1) (h2 : But g w1 w2) (hg : w.heap.size ≤ g) : Below w.heap.size w w2 :=
  ⟨h2.os.trans h.os, h2.tape.trans h.tape, h2.output.trans h.output, Nat.le_trans h.size h2.size, fun k hk => (h2.block k (Nat.lt_of_lt_of_le hk h.size) (by omega)).trans (h.block k hk)⟩
theorem But.setRow {g : Nat} {w : World} (cs : Array Value) : But g w (w.setRow g cs) :=
  ⟨rfl, rfl, rfl, by simp [World.setRow], fun k _ hn => setRow_other w g k cs hn⟩
theorem But.cell {g : Nat} {w w1 : World} (h : But g w w1) {p : Addr} (hp : p.block < w.heap.size) (hn : p.block ≠ g) : w1.cell? p = w.cell? p := World.cell?_of_block (h.block _ hp hn)
theorem But.frozen {g : Nat} {w w1 : World} (h : But g w w1) {p : Addr} (hp : p.block < w.heap.size) (hn : p.block ≠ g) : w1.frozen? p = w.frozen? p := World.frozen?_of_block (h.block _ hp hn)
theorem QBox.but {g : Nat} {W w1 : World} {B : Nat} {r : Pl.R} {v : Value} (h : QBox W B r v) (hb : But g W w1) (hN : B ≠ g) : QBox w1 B r v :=
  ⟨⟨(hb.cell (p := ⟨B, _, none⟩) h.lt hN).trans h.cells.1, (hb.cell (p := ⟨B, _, none⟩) h.lt hN).trans h.cells.2.1, (hb.cell (p := ⟨B, _, none⟩) h.lt hN).trans h.cells.2.2.1, (hb.cell (p := ⟨B, _, none⟩) h.lt hN).trans h.cells.2.2.2⟩, (hb.cell (p := ⟨B, _, none⟩) h.lt hN).trans h.data, fun j => (hb.frozen (p := ⟨B, j, none⟩) h.lt hN).trans (h.free j), by have := h.lt; have := hb.size; omega⟩
theorem Box.but {g : Nat} {W w1 : World} {B : Nat} {r : Pl.R} (h : Box W B r) (hb : But g W w1) (hN : B ≠ g) : Box w1 B r :=
  ⟨⟨(hb.cell (p := ⟨B, _, none⟩) h.lt hN).trans h.cells.1, (hb.cell (p := ⟨B, _, none⟩) h.lt hN).trans h.cells.2.1, (hb.cell (p := ⟨B, _, none⟩) h.lt hN).trans h.cells.2.2.1, (hb.cell (p := ⟨B, _, none⟩) h.lt hN).trans h.cells.2.2.2⟩, fun j => (hb.frozen (p := ⟨B, j, none⟩) h.lt hN).trans (h.free j), by have := h.lt; have := hb.size; omega⟩
theorem HoldsI.but {g : Nat} {w w1 : World} {a : Option Addr} {l : List Int} (h : HoldsI w a l) (hb : But g w w1) (hn : ∀ p, a = some p → p.block ≠ g) : HoldsI w1 a l := by
  rcases h with rfl | ⟨b, off, rfl, hr⟩
  · exact .inl rfl
  · exact .inr ⟨b, off, rfl, fun k hk => (hb.cell (p := ⟨b, off + k, none⟩) (cell_lt (hr k hk)) (hn ⟨b, off, none⟩ rfl)).trans (hr k hk)⟩
/-- What overlay knows at each place. -/
structure Ov (r q e : Pl.R) (v2 v3 : Value) (g B : Nat) (cur : List Int) (pad : List Value) (w W : World) : Prop where
  but : But g w W
  p2 : QBox W w.heap.size r v2
  p3 : QBox W (w.heap.size + 1) q v3
  p4 : Box W B e
  row : RowP W g cur pad
  glt : g < w.heap.size
  blt : w.heap.size < B
theorem Ov.step {r q e : Pl.R} {v2 v3 : Value} {g B : Nat} {cur : List Int} {pad : List Value} {w W W1 : World} (h : Ov r q e v2 v3 g B cur pad w W) (hb : Below W.heap.size W W1) : Ov r q e v2 v3 g B cur pad w W1 :=
  ⟨h.but.step hb, h.p2.below hb, h.p3.below hb, h.p4.below hb, h.row.below hb, h.glt, h.blt⟩
structure OvF (r q e : Pl.R) (v2 v3 : Value) (g B : Nat) (cur : List Int) (pad : List Value) (w : World) where
  W : World
  ok : Ov r q e v2 v3 g B cur pad w W
/-- The list behind some rows. -/
def ovG (r : Pl.R) (l : List Int) (q : Pl.R) (k : List Int) (Y : Int) (x y : Int) : Int := if Pl.hasB q.x0 q.y0 q.x1 q.y1 x y = true ∧ y < Y then gv q k x y else gv r l x y
theorem splice_pad (L : List Int) (pad : List Value) (off : Nat) (cs : List Int) (h : off + cs.length ≤ L.length) :
    splice (L.map (Value.int .i64) ++ pad) off (cs.map (Value.int .i64)) = (splice L off cs).map (Value.int .i64) ++ pad := by
  unfold splice
  rw [List.take_append_of_le_length (by simp; omega), List.drop_append_of_le_length (by simp; omega)]
  simp [List.map_take, List.map_drop]
theorem nat3 {a e x : Int} (h1 : a ≤ e) (h2 : e ≤ x) : (x - a).toNat - (e - a).toNat = (x - e).toNat := by omega
theorem nat4 {a e x : Int} (h1 : a ≤ e) (h2 : e ≤ x) : (e - a).toNat + (x - e).toNat = (x - a).toNat := by omega
theorem nat5 {e x g : Int} (h1 : e ≤ x) (h2 : x < g) : (x - e).toNat < (g - e).toNat := by omega
set_option maxHeartbeats 1000000 in
/-- One row is laid over. -/
theorem ov_next {a b c d a' b' c' d' e f g h Y : Int} {l k : List Int} (_hp : pvB a b c d l.length = true) (hq : pvB a' b' c' d' k.length = true)
    (he : e = max a a') (hf : f = max b b') (hg : g = min c c') (hh : h = min d d') (heg : e < g) (hY0 : f ≤ Y) (hY : Y < h) :
    splice (tabL ⟨a, b, c, d⟩ (ovG ⟨a, b, c, d⟩ l ⟨a', b', c', d'⟩ k Y)) (idx a b c e Y).toNat ((k.drop (idx a' b' c' e Y).toNat).take (g - e).toNat) = tabL ⟨a, b, c, d⟩ (ovG ⟨a, b, c, d⟩ l ⟨a', b', c', d'⟩ k (Y + 1)) := by
  have ea : a ≤ e := by omega
  have ea' : a' ≤ e := by omega
  have gc : g ≤ c := by omega
  have gc' : g ≤ c' := by omega
  have fb : b ≤ f := by omega
  have fb' : b' ≤ f := by omega
  have hd0 : h ≤ d := by omega
  have hd0' : h ≤ d' := by omega
  have hxe : ∀ x, a ≤ x → a' ≤ x → e ≤ x := fun x _ _ => by omega
  have hxg : ∀ x, x < c → x < c' → x < g := fun x _ _ => by omega
  clear he hf hg hh
  have hrE : Pl.hasB a b c d e Y = true := Pl.has_iff.2 ⟨by omega, by omega, by omega, by omega⟩
  have hqE : Pl.hasB a' b' c' d' e Y = true := Pl.has_iff.2 ⟨by omega, by omega, by omega, by omega⟩
  have hrG : Pl.hasB a b c d (g - 1) Y = true := Pl.has_iff.2 ⟨by omega, by omega, by omega, by omega⟩
  have hqG : Pl.hasB a' b' c' d' (g - 1) Y = true := Pl.has_iff.2 ⟨by omega, by omega, by omega, by omega⟩
  have i1 := (idx_nat hrE).1
  have i2 := (idx_nat hqE).1
  have i3 := (idx_nat hrG).1
  have i4 := (idx_nat hqG).1
  have j3 := idx_lt' hrG
  have j4 := idx_lt' hqG
  have hk := pv_len hq
  have t1 : (idx a b c e Y).toNat + (g - e).toNat = (idx a b c (g - 1) Y).toNat + 1 := by rw [i1, i3]; clear j3 j4 hk i2 i4; omega
  have t2 : (idx a' b' c' e Y).toNat + (g - e).toNat = (idx a' b' c' (g - 1) Y).toNat + 1 := by rw [i2, i4]; clear j3 j4 hk i1 i3; omega
  have hcs : ((k.drop (idx a' b' c' e Y).toNat).take (g - e).toNat).length = (g - e).toNat := by rw [List.length_take, List.length_drop]; clear i1 i2 i3 i4 t1 j3; omega
  have hfit : (idx a b c e Y).toNat + ((k.drop (idx a' b' c' e Y).toNat).take (g - e).toNat).length ≤ (tabL ⟨a, b, c, d⟩ (ovG ⟨a, b, c, d⟩ l ⟨a', b', c', d'⟩ k Y)).length := by
    rw [hcs, tabL_len]; dsimp only; clear i1 i2 i3 i4 t2 j4 hk; omega
  refine tab_ext (a := a) (b := b) (c := c) (d := d) ?_ tabL_len fun x y hxy => ?_
  · rw [length_splice _ _ _ hfit, tabL_len]
  rw [tabL_gv hxy]
  obtain ⟨ix, lx, ly⟩ := idx_nat hxy
  obtain ⟨x1, x2, y1, y2⟩ := Pl.has_iff.1 hxy
  have key : ((idx a b c e Y).toNat ≤ (idx a b c x y).toNat ∧ (idx a b c x y).toNat < (idx a b c e Y).toNat + (g - e).toNat) ↔ (y = Y ∧ e ≤ x ∧ x < g) := by
    have m1 : y < Y → (y - b).toNat * (c - a).toNat + (c - a).toNat ≤ (Y - b).toNat * (c - a).toNat := fun hlt => by
      have := Nat.mul_le_mul_right (c - a).toNat (show (y - b).toNat + 1 ≤ (Y - b).toNat by omega)
      rw [Nat.add_mul, Nat.one_mul] at this
      exact this
    have m2 : Y < y → (Y - b).toNat * (c - a).toNat + (c - a).toNat ≤ (y - b).toNat * (c - a).toNat := fun hlt => by
      have := Nat.mul_le_mul_right (c - a).toNat (show (Y - b).toNat + 1 ≤ (y - b).toNat by omega)
      rw [Nat.add_mul, Nat.one_mul] at this
      exact this
    clear j3 j4 hk t1 t2 hcs hfit i2 i3 i4 hxe hxg hq
    rw [i1, ix]
    rcases Int.lt_trichotomy y Y with hlt | rfl | hlt
    · have := m1 hlt; omega
    · omega
    · have := m2 hlt; omega
  have hgv : gv ⟨a, b, c, d⟩ (splice (tabL ⟨a, b, c, d⟩ (ovG ⟨a, b, c, d⟩ l ⟨a', b', c', d'⟩ k Y)) (idx a b c e Y).toNat ((k.drop (idx a' b' c' e Y).toNat).take (g - e).toNat)) x y =
      (if (y = Y ∧ e ≤ x ∧ x < g) then gv ⟨a', b', c', d'⟩ k x y else gv ⟨a, b, c, d⟩ (tabL ⟨a, b, c, d⟩ (ovG ⟨a, b, c, d⟩ l ⟨a', b', c', d'⟩ k Y)) x y) := by
    by_cases hk2 : y = Y ∧ e ≤ x ∧ x < g
    · have hk3 := key.2 hk2
      obtain ⟨rfl, q1, q2⟩ := hk2
      rw [if_pos ⟨rfl, q1, q2⟩, gv, gv, List.getD_eq_getElem?_getD, List.getD_eq_getElem?_getD, splice_at _ _ _ hfit, hcs, if_pos hk3]
      have hqx : Pl.hasB a' b' c' d' x y = true := Pl.has_iff.2 ⟨Int.le_trans ea' q1, Int.lt_of_lt_of_le q2 gc', Int.le_trans fb' hY0, Int.lt_of_lt_of_le hY hd0'⟩
      have i5 := (idx_nat hqx).1
      have t3 : (idx a b c x y).toNat - (idx a b c e y).toNat = (x - e).toNat := by rw [ix, i1, Nat.add_sub_add_left]; exact nat3 ea q1
      have t4 : (idx a' b' c' e y).toNat + (x - e).toNat = (idx a' b' c' x y).toNat := by rw [i2, i5, Nat.add_assoc, nat4 ea' q1]
      dsimp only
      rw [t3, List.getElem?_take_of_lt (nat5 q1 q2), List.getElem?_drop, t4]
    · rw [if_neg hk2, gv, gv, List.getD_eq_getElem?_getD, List.getD_eq_getElem?_getD, splice_at _ _ _ hfit, hcs, if_neg (fun hh => hk2 (key.1 hh))]
  rw [hgv, tabL_gv hxy]
  clear hgv key i1 i2 i3 i4 j3 j4 hk t1 t2 hcs hfit ix hrE hqE hrG hqG
  unfold ovG
  by_cases hk2 : y = Y ∧ e ≤ x ∧ x < g
  · have hz : Pl.hasB a' b' c' d' x y = true := Pl.has_iff.2 ⟨by omega, by omega, by omega, by omega⟩
    rw [if_pos hk2, if_pos ⟨hz, by omega⟩]
  · rw [if_neg hk2]
    by_cases hq2 : Pl.hasB a' b' c' d' x y = true ∧ y < Y
    · rw [if_pos hq2, if_pos ⟨hq2.1, by omega⟩]
    · rw [if_neg hq2, if_neg]
      rintro ⟨hq3, hy3⟩
      have hq4 := Pl.has_iff.1 hq3
      by_cases hyY : y < Y
      · exact hq2 ⟨hq3, hyY⟩
      · exact hk2 ⟨by omega, hxe x x1 hq4.1, hxg x x2 hq4.2.1⟩
/-- One step of a region that draws its order: copy into a row that is known whole; every other block stays. -/
theorem step_copy_but {P : Program} {ops : Array Oper} {o : Oper} {act : Act} {w : World} {K : Act → World → Prop} {Q : Exit → Act → World → Prop} {E : Prop} (hgd : o.guard = none) (x y : Operand) (dT sT : TypeId)
    (ho : o.op = .call { callee := .builtin .copy, args := #[x, y], argTypes := #[dT, sT] }) (elem : TypeId) (hu : P.underlying dT = some (.slice elem)) (hsz : (P.info? elem).map (·.size) = some 1)
    (g off dLen dCap : Nat) (ad : Addr) (sLen sCap : Nat) (hx : act.eval x = .slice (some ⟨g, off, none⟩) dLen dCap) (hy : act.eval y = .slice (some ad) sLen sCap)
    (cur : List Value) (t : TypeId) (hg : w.heap[g]? = some (.cells cur.toArray t (0, 0))) (cs : List Value) (hn : cs.length = Nat.min sLen dLen)
    (hsrc : ∀ j v, cs[j]? = some v → w.cell? (ad.add j) = some v) (hfit : off + cs.length ≤ cur.length) (h1 : ∀ v ∈ cs, v.oneCell' = true)
    (h : ∀ w', Hid (w'.heap[g]? = some (.cells (splice cur off cs).toArray t (0, 0))) → But g w w' → K (act.put o.dst (goInt cs.length)) w') :
    if Region.wanted o (yielded ops act.tmps) = true then Oper.wp P o act w K Q else E := by
  have hw : Region.wanted o (yielded ops act.tmps) = true := by simp [Region.wanted, hgd]
  have hrun := run_copy_row (P := P) w dT sT o.type elem g off dLen dCap ad sLen sCap cur.toArray t cs hu hsz hg hn hsrc (by simpa using hfit) h1
  rw [if_pos hw]
  unfold Oper.wp
  simp [execOp, ho, resolve, invoke, builtin, hx, hy, hrun, Result.andThen]
  refine h _ (show _ = _ from ?_) (But.setRow _)
  have := setRow_heap w g _ (splice cur off cs).toArray t _ hg
  simpa [splice] using this
/-- A row's part lies in the list. -/
theorem ov_fit {a b c d e u Y : Int} {l : List Int} (hp : pvB a b c d l.length = true) (h1 : a ≤ e) (h2 : e < u) (h3 : u ≤ c) (h4 : b ≤ Y) (h5 : Y < d) : (idx a b c e Y).toNat + (u - e).toNat ≤ l.length := by
  have hE : Pl.hasB a b c d e Y = true := Pl.has_iff.2 ⟨by omega, by omega, by omega, by omega⟩
  have hG : Pl.hasB a b c d (u - 1) Y = true := Pl.has_iff.2 ⟨by omega, by omega, by omega, by omega⟩
  have i1 := (idx_nat hE).1
  have i3 := (idx_nat hG).1
  have j3 := idx_lt' hG
  have t1 : (idx a b c e Y).toNat + (u - e).toNat = (idx a b c (u - 1) Y).toNat + 1 := by rw [i1, i3]; clear j3; omega
  have := pv_len hp
  clear i1 i3
  omega
theorem ov_start {a b c d a' b' c' d' f : Int} {l k : List Int} (hp : pvB a b c d l.length = true) (hf : f = max b b') : tabL ⟨a, b, c, d⟩ (ovG ⟨a, b, c, d⟩ l ⟨a', b', c', d'⟩ k f) = l := by
  rw [← tabL_self (pv_len hp)]
  refine tabL_congr fun x y hxy => ?_
  rw [tabL_self (pv_len hp), ovG, if_neg]
  rintro ⟨h1, h2⟩
  have := Pl.has_iff.1 h1
  have := Pl.has_iff.1 hxy
  dsimp only at *
  omega
theorem ov_end {a b c d a' b' c' d' h : Int} {l k : List Int} (hh : h = min d d') : tabL ⟨a, b, c, d⟩ (ovG ⟨a, b, c, d⟩ l ⟨a', b', c', d'⟩ k h) = pasteL ⟨a, b, c, d⟩ l ⟨a', b', c', d'⟩ k := by
  refine tabL_congr fun x y hxy => ?_
  unfold ovG ovF
  by_cases h1 : Pl.hasB a' b' c' d' x y = true
  · have h2 := Pl.has_iff.1 h1
    have h3 := Pl.has_iff.1 hxy
    rw [if_pos h1, if_pos ⟨h1, by omega⟩]
  · rw [if_neg h1, if_neg (fun hh => h1 hh.1)]
end Go.Proofs.Ytadkcgpkbcgeoaa
