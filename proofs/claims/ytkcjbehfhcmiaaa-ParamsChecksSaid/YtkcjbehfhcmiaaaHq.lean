/-
  Layer 23: contract of count at the two closures of crowded.
-/
import Derived.Test.YtkcjbehfhcmiaaaHl
import Derived.Test.YtkcjbehfhcmiaaaHk
set_option maxRecDepth 100000
namespace Go.Proofs.Ytkcjbehfhcmiaaa
open Go.RowKit

theorem results_ct {fn : Func} {p : Tmp} (h : fn.results = #[.cell p 82]) (tmps : Array Value) {W : World} {g : Nat} {a b : Value} (hp : tmps.getD p undef = .pointer (some ⟨g, 0, none⟩)) (B : Blk W g 82 #[a, b]) :
    (results fn tmps).run Try.prog W = .ok (.agg #[a, b]) W := by
  have e : (asAddr (.pointer (some ⟨g, 0, none⟩))).run Try.prog W = .ok (⟨g, 0, none⟩ : Addr) W := rfl
  have k : (results fn tmps).run Try.prog W = ((asAddr (tmps.getD p undef)).run Try.prog W).andThen fun a w₁ => (loadVar 82 a).run Try.prog w₁ := by
    simp only [results, h]
    simp [Sem.run_bind, Result.andThen]
  rw [k, hp, e]
  simp only [Result.andThen]
  obtain ⟨c0, c1⟩ := B.two
  simp [loadVar, go_sem, c0, c1]
theorem info1_parts {i : TypeInfo} {z : Value} {a b : Nat} : (some i).map (fun i => (i.zero, i.size, i.bytes)) = some (some z, a, b) → i.zero = some z ∧ i.size = a ∧ i.bytes = b := by
  intro h
  simpa using h
theorem mk_ints (c : Nat) (hc : c ≤ 65536) (W : World) : (Instr.makeSlice 33 (.int .i64 (c : Int)) (.int .i64 (c : Int))).run Try.prog W = .ok (.slice (some ⟨W.heap.size, 0, none⟩) c c) (W.alloc (.cells (madeCells #[.int .i64 0] c) 3)) := by
  cases hi : Try.prog.info? 3 with
  | none => have := infoI; rw [hi] at this; cases this
  | some i0 =>
    have h0 := infoI
    rw [hi] at h0
    obtain ⟨hz0, hz1, hz2⟩ := info1_parts h0
    have hr := run_make (P := Try.prog) W 33 3 i0 _ Try.underlying33 hi hz0 .i64 .i64 c c (by omega) (Int.le_refl _) (by rw [hz2]; omega) (by omega)
    rw [hz1, Int.toNat_natCast, Nat.mul_one] at hr
    exact hr
theorem made_eq (n : Nat) : madeCells #[.int .i64 0] n = ((List.replicate n (0 : Int)).map (Value.int .i64)).toArray := by
  have h := rowAt_made (World.drew default) n
  have h2 := Blk.new (World.drew default) 3 (madeCells #[.int .i64 0] n)
  unfold RowAt at h
  unfold Blk at h2
  rw [h2] at h
  injection h with h
  injection h with h
theorem made_row {w : World} {g n : Nat} (h : Blk w g 3 (madeCells #[.int .i64 0] n)) : RowAt w g (List.replicate n 0) := by
  rw [made_eq] at h
  exact h
section
variable {W : World} {o1 o2 o3 : Obj} {t : TypeId} {cs : Array Value}
theorem new1 : Blk ((((W.alloc (.cells cs t)).alloc o2).alloc o3).drew) W.heap.size t cs := (((Blk.new W t cs).alloc _).alloc _).drew
theorem new2 : Blk ((((W.alloc o1).alloc (.cells cs t)).alloc o3).drew) (W.heap.size + 1) t cs := by
  have := ((Blk.new (W.alloc o1) t cs).alloc o3).drew
  simpa using this
theorem new3 : Blk ((((W.alloc o1).alloc o2).alloc (.cells cs t)).drew) (W.heap.size + 1 + 1) t cs := by
  have := (Blk.new ((W.alloc o1).alloc o2) t cs).drew
  simpa using this
end
/-- The counts while they are filled. -/
structure CtS (W : World) (ex ey : Int) (gc g1 g2 : Nat) (X Y : List Int) (k j : Nat) (wr : World) : Prop where
  bl : Below W.heap.size W wr
  bc : Blk wr gc 82 #[.slice (some ⟨g1, 0, none⟩) X.length X.length, .slice (some ⟨g2, 0, none⟩) Y.length Y.length]
  be : Blk wr W.heap.size 41 #[.int .i64 ex, .int .i64 ey]
  br : Blk wr (W.heap.size + 1) 82 #[.slice none 0 0, .slice none 0 0]
  r1 : RowAt wr g1 (fillL X k)
  r2 : RowAt wr g2 (fillL Y j)
  b1 : W.heap.size + 1 < g1
  b2 : W.heap.size + 1 < g2
  ne : g1 ≠ g2
theorem row_blk {w : World} {g : Nat} {l : List Int} (h : RowAt w g l) : Blk w g 3 (l.map (Value.int .i64)).toArray := h
section
variable {W wr w1 : World} {ex ey : Int} {gc g1 g2 : Nat} {X Y : List Int} {k j : Nat}
theorem CtS.below (c : CtS W ex ey gc g1 g2 X Y k j wr) (h : Below wr.heap.size wr w1) : CtS W ex ey gc g1 g2 X Y k j w1 :=
  ⟨c.bl.trans (h.mono c.bl.size), c.bc.below h, c.be.below h, c.br.below h, c.r1.below h, c.r2.below h, c.b1, c.b2, c.ne⟩
theorem CtS.alloc (c : CtS W ex ey gc g1 g2 X Y k j wr) (o : Obj) : CtS W ex ey gc g1 g2 X Y k j (wr.alloc o) := c.below ((Below.refl _ _).alloc (Nat.le_refl _) _)
theorem CtS.drew (c : CtS W ex ey gc g1 g2 X Y k j wr) : CtS W ex ey gc g1 g2 X Y k j wr.drew := c.below (Below.refl _ _).drew
theorem CtS.set1 (c : CtS W ex ey gc g1 g2 X Y k j wr) (hk : k < X.length) : CtS W ex ey gc g1 g2 X Y (k + 1) j (wr.setCell ⟨g1, k, none⟩ (.int .i64 X[k])) :=
  ⟨c.bl.setCell (p := ⟨g1, k, none⟩) (by have := c.b1; show W.heap.size ≤ g1; omega) _, c.bc.far (p := ⟨g1, k, none⟩) (c.bc.ne (row_blk c.r1) (by decide)) _, c.be.far (p := ⟨g1, k, none⟩) (by have := c.b1; show W.heap.size ≠ g1; omega) _, c.br.far (p := ⟨g1, k, none⟩) (by have := c.b1; show W.heap.size + 1 ≠ g1; omega) _, by have := c.r1.set k X[k]; rwa [fillL_next X k hk] at this, c.r2.far _ _ (by exact c.ne.symm), c.b1, c.b2, c.ne⟩
theorem CtS.set2 (c : CtS W ex ey gc g1 g2 X Y k j wr) (hk : j < Y.length) : CtS W ex ey gc g1 g2 X Y k (j + 1) (wr.setCell ⟨g2, j, none⟩ (.int .i64 Y[j])) :=
  ⟨c.bl.setCell (p := ⟨g2, j, none⟩) (by have := c.b2; show W.heap.size ≤ g2; omega) _, c.bc.far (p := ⟨g2, j, none⟩) (c.bc.ne (row_blk c.r2) (by decide)) _, c.be.far (p := ⟨g2, j, none⟩) (by have := c.b2; show W.heap.size ≠ g2; omega) _, c.br.far (p := ⟨g2, j, none⟩) (by have := c.b2; show W.heap.size + 1 ≠ g2; omega) _, c.r1.far _ _ (by exact c.ne), by have := c.r2.set j Y[j]; rwa [fillL_next Y j hk] at this, c.b1, c.b2, c.ne⟩
end
theorem tile_mul {k nc nr LEN xl : Nat} (hx : xl = nc) (hk : k * nc < nr * nc) (hl : LEN = nr * nc) (hf : LEN ≤ 1024) : ∃ tn : Nat, k * nc = tn ∧ wrap64 ((k : Int) * (xl : Int)) = (tn : Int) ∧ (tn : Int) < (LEN : Int) ∧ tn < LEN := by
  subst hx
  have h1 : k * xl < nr * xl := hk
  rw [← hl] at h1
  refine ⟨k * xl, rfl, ?_, Int.ofNat_lt.2 h1, h1⟩
  rw [← Int.natCast_mul]
  generalize k * xl = q at *
  exact IntWalk.wrap64_in _ ⟨by omega, by omega⟩
/-- What count gives. -/
def GivesCt (X Y : List Int) (W : World) (e : Ending) (w' : World) : Prop := ∃ g1 g2, e = .returned (.agg #[.slice (some ⟨g1, 0, none⟩) X.length X.length, .slice (some ⟨g2, 0, none⟩) Y.length Y.length]) ∧ RowAt w' g1 X ∧ RowAt w' g2 Y ∧ W.heap.size ≤ g1 ∧ W.heap.size ≤ g2 ∧ Below W.heap.size W w'
theorem tile_at {W w : World} {st : Option Addr} {h : Hp.Hd} {t : Nat} (T : Hp.Tls h) (hT : Holds W st (Hp.tl h)) (ht : t < Hp.nr h * Hp.nc h) (hb : Below W.heap.size W w) : ∃ b o, st = some ⟨b, o, none⟩ ∧ RectAt w b (o + t * 4) (Hp.tlN h t) := by
  have hl : t < (Hp.tl h).length := by rw [T.len]; exact ht
  rcases hT with q | ⟨b, o, rfl, hr⟩
  · rw [q] at hl; simp at hl
  · have h0 := (hr t hl).below hb (cell_lt (hr t hl).1)
    refine ⟨b, o, rfl, ?_⟩
    have e : Hp.tlN h t = (Hp.tl h)[t] := by unfold Hp.tlN; rw [List.getD_eq_getElem?_getD]; simp [hl]
    rw [e]
    exact h0
end Go.Proofs.Ytkcjbehfhcmiaaa
