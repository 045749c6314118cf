/-
  Layer 14: CblkKeeps: rows of numbers beside a block.
-/
import Derived.Test.YtdpfojenljejiaaGc
set_option maxRecDepth 100000
namespace Go.Proofs.Ytdpfojenljejiaa
open Go.RowKit

def fl (s t r : Bool) : Int := b8 s + 2 * b8 t + 4 * b8 r
theorem fl_or1 (s t r : Bool) : bits .or .i64 (fl s t r) 1 = fl true t r := by cases s <;> cases t <;> cases r <;> decide
theorem fl_or2 (s t r : Bool) : bits .or .i64 (fl s t r) 2 = fl s true r := by cases s <;> cases t <;> cases r <;> decide
theorem fl_not2 (s t r : Bool) : bits .andNot .i64 (fl s t r) 2 = fl s false r := by cases s <;> cases t <;> cases r <;> decide
theorem fl_or4 (s t r : Bool) : bits .or .i64 (fl s t r) 4 = fl s t true := by cases s <;> cases t <;> cases r <;> decide
theorem fl_and1 (s t r : Bool) : bits .and .i64 (fl s t r) 1 = b8 s := by cases s <;> cases t <;> cases r <;> decide
theorem fl_and2 (s t r : Bool) : bits .and .i64 (fl s t r) 2 = 2 * b8 t := by cases s <;> cases t <;> cases r <;> decide
theorem fl_and4 (s t r : Bool) : bits .and .i64 (fl s t r) 4 = 4 * b8 r := by cases s <;> cases t <;> cases r <;> decide
/-- A grid of numbers, row by row, without a margin. -/
def Gs (W : World) (g : Nat) (f : Int → Int → Int) (w h : Nat) : Prop := ∃ cs, Blk W g 3 cs ∧ ∀ x y : Int, inB w h x y → cs[ixR w x y]? = some (.int .i64 (f x y))
section
variable {W W' : World} {B A V S T R A2 C w h g GV GF : Nat} {q : St} {f : Int → Int → Int}
theorem Gs.keep (H : Gs W g f w h) (hk : W'.heap[g]? = W.heap[g]?) : Gs W' g f w h := by
  obtain ⟨cs, h1, h2⟩ := H
  exact ⟨cs, hk.trans h1, h2⟩
theorem Gs.lt (H : Gs W g f w h) : g < W.heap.size := H.elim fun _ H => H.1.lt
theorem Gs.at (H : Gs W g f w h) {x y : Int} (hin : inB w h x y) : W.cell? ⟨g, ixR w x y, none⟩ = some (.int .i64 (f x y)) := by
  obtain ⟨cs, h1, h2⟩ := H
  rw [h1.cell]; exact h2 x y hin
theorem Gs.free (H : Gs W g f w h) (i : Nat) : W.frozen? ⟨g, i, none⟩ = false := H.elim fun _ H => H.1.free i
theorem ixR_inj {x y x' y' : Int} (hin : inB w h x y) (hin' : inB w h x' y') (he : ixR w x y = ixR w x' y') : x = x' ∧ y = y' := by
  obtain ⟨h1, h2, h3, h4⟩ := hin
  obtain ⟨g1, g2, g3, g4⟩ := hin'
  obtain ⟨a, b⟩ := grid_inj (w := w) (X := x.toNat) (X' := x'.toNat) (Y := y.toNat) (Y' := y'.toNat) (by omega) (by omega) he
  omega
theorem Gs.put (H : Gs W g f w h) {x y : Int} (hin : inB w h x y) (a : Int) (f' : Int → Int → Int) (hf : ∀ X Y, inB w h X Y → f' X Y = if X = x ∧ Y = y then a else f X Y) : Gs (W.setCell ⟨g, ixR w x y, none⟩ (.int .i64 a)) g f' w h := by
  obtain ⟨cs, h1, h2⟩ := H
  refine ⟨_, h1.set _ _, fun X Y hXY => ?_⟩
  rw [Array.getElem?_setIfInBounds, hf X Y hXY]
  by_cases hc : X = x ∧ Y = y
  · obtain ⟨rfl, rfl⟩ := hc
    rw [if_pos rfl, if_pos (Array.getElem?_eq_some_iff.1 (h2 X Y hXY)).1, if_pos ⟨rfl, rfl⟩]
  · rw [if_neg hc, if_neg (fun he => hc (by have := ixR_inj hin hXY he; omega))]; exact h2 X Y hXY
theorem Gs.neb {ty : TypeId} {cs : Array Value} (H : Gs W g f w h) (H' : Blk W GV ty cs) (hne : 3 ≠ ty) : g ≠ GV := by
  obtain ⟨_, h1, _⟩ := H
  exact h1.ne H' hne
theorem Gs.neg {g' : Nat} {ty : TypeId} {F : Int → Int → Value} (H : Gs W g f w h) (H' : Gr W g' ty F w h) (hne : 3 ≠ ty) : g ≠ g' := by
  obtain ⟨_, h1, _⟩ := H
  obtain ⟨_, h2, _⟩ := H'
  exact h1.ne h2 hne
/-- A block, its values and its flags in rows of numbers. -/
structure Ke (W : World) (B A V S T R GV GF w h : Nat) (q : St) : Prop where
  cb : Cb W B A V S T R w h q
  gv : Gs W GV q.v w h
  gf : Gs W GF (fun x y => fl (q.s x y) (q.t x y) (q.r x y)) w h
  n1 : GV ≠ V
  n2 : GF ≠ V
  n3 : GV ≠ GF
  e1 : B ≤ GV
  e2 : B ≤ GF
theorem Ke.below (H : Ke W B A V S T R GV GF w h q) (hb : Below W.heap.size W W') : Ke W' B A V S T R GV GF w h q :=
  ⟨H.cb.below hb, H.gv.keep (hb.block _ H.gv.lt), H.gf.keep (hb.block _ H.gf.lt), H.n1, H.n2, H.n3, H.e1, H.e2⟩
/-- Neither row is the block's. -/
theorem Ke.far (H : Ke W B A V S T R GV GF w h q) : GV ∉ [V, S, T, R] ∧ GF ∉ [V, S, T, R] := by
  have a1 := H.gv.neg H.cb.gs (by decide)
  have a2 := H.gv.neg H.cb.gt (by decide)
  have a3 := H.gv.neg H.cb.gr (by decide)
  have b1 := H.gf.neg H.cb.gs (by decide)
  have b2 := H.gf.neg H.cb.gt (by decide)
  have b3 := H.gf.neg H.cb.gr (by decide)
  constructor
  · simp; exact ⟨H.n1, a1, a2, a3⟩
  · simp; exact ⟨H.n2, b1, b2, b3⟩
theorem Ke.setv {x y v : Int} (H : Ke W B A V S T R GV GF w h q) (hin : inB w h x y) (Q : Cb W' B A V S T R w h { q with v := upd q.v x y v }) (K : Kb [V, S, T, R] W W') :
    Ke (W'.setCell ⟨GV, ixR w x y, none⟩ (.int .i64 v)) B A V S T R GV GF w h { q with v := upd q.v x y v } ∧ Kb [GV, GF] W' (W'.setCell ⟨GV, ixR w x y, none⟩ (.int .i64 v)) := by
  obtain ⟨f1, f2⟩ := H.far
  have gv := H.gv.keep (K.block _ H.gv.lt f1)
  have gf := H.gf.keep (K.block _ H.gf.lt f2)
  have k1 : Kb [GV] W' (W'.setCell ⟨GV, ixR w x y, none⟩ (.int .i64 v)) := Kb.set _ _ _ (by simp) _
  have m : ∀ k, GV ≠ k → k ∉ [GV] := fun k hk hm => hk (List.mem_singleton.1 hm).symm
  have s1 := gv.neg Q.gs (by decide)
  have s2 := gv.neg Q.gt (by decide)
  have s3 := gv.neg Q.gr (by decide)
  have s4 := gv.neb Q.obj (by decide)
  exact ⟨⟨Q.kb k1 (m _ s4) (m _ H.n1) (m _ s1) (m _ s2) (m _ s3), gv.put hin v _ (fun X Y _ => rfl), gf.keep (k1.block _ gf.lt (m _ H.n3)), H.n1, H.n2, H.n3, H.e1, H.e2⟩, Kb.set _ _ _ (by simp) _⟩
theorem Ke.setf {x y : Int} {q' : St} {F : Int} (H : Ke W B A V S T R GV GF w h q) (hin : inB w h x y) (Q : Cb W' B A V S T R w h q') (K : Kb [V, S, T, R] W W') (hv : q'.v = q.v)
    (hf : ∀ X Y, inB w h X Y → fl (q'.s X Y) (q'.t X Y) (q'.r X Y) = if X = x ∧ Y = y then F else fl (q.s X Y) (q.t X Y) (q.r X Y)) :
    Ke (W'.setCell ⟨GF, ixR w x y, none⟩ (.int .i64 F)) B A V S T R GV GF w h q' ∧ Kb [GV, GF] W' (W'.setCell ⟨GF, ixR w x y, none⟩ (.int .i64 F)) := by
  obtain ⟨f1, f2⟩ := H.far
  have gv := H.gv.keep (K.block _ H.gv.lt f1)
  have gf := H.gf.keep (K.block _ H.gf.lt f2)
  have k1 : Kb [GF] W' (W'.setCell ⟨GF, ixR w x y, none⟩ (.int .i64 F)) := Kb.set _ _ _ (by simp) _
  have m : ∀ k, GF ≠ k → k ∉ [GF] := fun k hk hm => hk (List.mem_singleton.1 hm).symm
  have s1 := gf.neg Q.gs (by decide)
  have s2 := gf.neg Q.gt (by decide)
  have s3 := gf.neg Q.gr (by decide)
  have s4 := gf.neb Q.obj (by decide)
  refine ⟨⟨Q.kb k1 (m _ s4) (m _ H.n2) (m _ s1) (m _ s2) (m _ s3), ?_, gf.put hin F _ hf, H.n1, H.n2, H.n3, H.e1, H.e2⟩, Kb.set _ _ _ (by simp) _⟩
  rw [hv]; exact gv.keep (k1.block _ gv.lt (m _ H.n3.symm))
theorem Ke.same (H : Ke W B A V S T R GV GF w h q) (Q : Cb W' B A V S T R w h q) (K : Kb [V, S, T, R] W W') : Ke W' B A V S T R GV GF w h q := by
  obtain ⟨f1, f2⟩ := H.far
  exact ⟨Q, H.gv.keep (K.block _ H.gv.lt f1), H.gf.keep (K.block _ H.gf.lt f2), H.n1, H.n2, H.n3, H.e1, H.e2⟩
/-- What the changes do to the flags' numbers. -/
theorem fl_mark (q : St) (x y X Y : Int) : fl (upd q.s x y true X Y) (q.t X Y) (q.r X Y) = if X = x ∧ Y = y then fl true (q.t x y) (q.r x y) else fl (q.s X Y) (q.t X Y) (q.r X Y) := by
  unfold upd
  by_cases hc : X = x ∧ Y = y
  · rw [if_pos hc, if_pos hc, hc.1, hc.2]
  · rw [if_neg hc, if_neg hc]
theorem fl_touch (q : St) (x y X Y : Int) (c : Bool) : fl (q.s X Y) (upd q.t x y c X Y) (q.r X Y) = if X = x ∧ Y = y then fl (q.s x y) c (q.r x y) else fl (q.s X Y) (q.t X Y) (q.r X Y) := by
  unfold upd
  by_cases hc : X = x ∧ Y = y
  · rw [if_pos hc, if_pos hc, hc.1, hc.2]
  · rw [if_neg hc, if_neg hc]
theorem fl_refine (q : St) (x y X Y : Int) : fl (q.s X Y) (q.t X Y) (upd q.r x y true X Y) = if X = x ∧ Y = y then fl (q.s x y) (q.t x y) true else fl (q.s X Y) (q.t X Y) (q.r X Y) := by
  unfold upd
  by_cases hc : X = x ∧ Y = y
  · rw [if_pos hc, if_pos hc, hc.1, hc.2]
  · rw [if_neg hc, if_neg hc]
theorem gs_made {z : Value} (hz : z = .int .i64 0) (hb : W.heap[g]? = some (.cells (madeCells #[z] (w * h)) 3)) : Gs W g (fun _ _ => 0) w h := by
  subst hz
  refine ⟨_, hb, fun x y hin => ?_⟩
  simp [madeCells, ixR_lt hin, Nat.mod_one]
end
end Go.Proofs.Ytdpfojenljejiaa
