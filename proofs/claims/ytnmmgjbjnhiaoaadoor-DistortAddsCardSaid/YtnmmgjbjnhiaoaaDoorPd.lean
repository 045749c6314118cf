/-
  Layer 14: blocks in memory: what is known of them, what a call keeps.
-/
import Derived.Test.YtnmmgjbjnhiaoaaDoorPa
import Derived.LaidEqlPtr
set_option maxRecDepth 100000
namespace Go.Proofs.YtnmmgjbjnhiaoaaDoor
open Go.RowKit

/-- A block's state: values and flags by coordinates. -/
structure St where
  v : Int → Int → Int
  s : Int → Int → Bool
  t : Int → Int → Bool
  r : Int → Int → Bool
def St.zero : St := ⟨fun _ _ => 0, fun _ _ => false, fun _ _ => false, fun _ _ => false⟩
def inB (w h : Nat) (x y : Int) : Prop := 0 ≤ x ∧ x < w ∧ 0 ≤ y ∧ y < h
instance (w h : Nat) (x y : Int) : Decidable (inB w h x y) := by unfold inB; infer_instance
def St.Out (q : St) (w h : Nat) : Prop := ∀ x y, ¬ inB w h x y → q.v x y = 0 ∧ q.s x y = false ∧ q.t x y = false ∧ q.r x y = false
def upd {α : Type} (f : Int → Int → α) (x y : Int) (a : α) : Int → Int → α := fun X Y => if X = x ∧ Y = y then a else f X Y
theorem upd_same {α : Type} (f : Int → Int → α) (x y : Int) (a : α) : upd f x y a x y = a := by simp [upd]
theorem upd_far {α : Type} (f : Int → Int → α) (x y X Y : Int) (a : α) (h : ¬ (X = x ∧ Y = y)) : upd f x y a X Y = f X Y := by unfold upd; rw [if_neg h]
def b8 (b : Bool) : Int := if b then 1 else 0
def idx (w X Y : Nat) : Nat := (Y + 1) * (w + 2) + X + 1
theorem grid_inj {w X Y X' Y' : Nat} (hX : X < w) (hX' : X' < w) (h : Y * w + X = Y' * w + X') : X = X' ∧ Y = Y' := by
  have h1 : (Y * w + X) / w = Y := by rw [Nat.mul_comm, Nat.mul_add_div (by omega), Nat.div_eq_of_lt hX]; omega
  have h2 : (Y' * w + X') / w = Y' := by rw [Nat.mul_comm, Nat.mul_add_div (by omega), Nat.div_eq_of_lt hX']; omega
  have hY : Y = Y' := by rw [← h1, ← h2, h]
  subst hY
  exact ⟨by omega, rfl⟩
theorem grid_lt {w h X Y : Nat} (hX : X < w) (hY : Y < h) : Y * w + X < w * h := by
  have : (Y + 1) * w ≤ h * w := Nat.mul_le_mul_right w hY
  rw [Nat.succ_mul] at this
  rw [Nat.mul_comm w h]
  omega
/-- What a call leaves as it is: all blocks but those of a list. -/
structure Kb (fp : List Nat) (W W' : World) : Prop where
  os : W'.os = W.os
  tape : W'.tape = W.tape
  output : W'.output = W.output
  size : W.heap.size ≤ W'.heap.size
  block : ∀ k, k < W.heap.size → k ∉ fp → W'.heap[k]? = W.heap[k]?
section
variable {fp : List Nat} {W W' W1 W2 : World} {B : Nat}
theorem Kb.refl (fp : List Nat) (W : World) : Kb fp W W := ⟨rfl, rfl, rfl, Nat.le_refl _, fun _ _ _ => rfl⟩
theorem Kb.trans (h : Kb fp W W1) (h' : Kb fp W1 W2) : Kb fp W W2 := ⟨h'.os.trans h.os, h'.tape.trans h.tape, h'.output.trans h.output, Nat.le_trans h.size h'.size, fun k hk hf => (h'.block k (Nat.lt_of_lt_of_le hk h.size) hf).trans (h.block k hk hf)⟩
theorem Kb.of_below (fp : List Nat) (h : Below W.heap.size W W') : Kb fp W W' := ⟨h.os, h.tape, h.output, h.size, fun k hk _ => h.block k hk⟩
theorem Kb.below (h : Kb fp W W') (hf : ∀ k ∈ fp, B ≤ k) (hB : B ≤ W.heap.size) : Below B W W' := ⟨h.os, h.tape, h.output, h.size, fun k hk => h.block k (by omega) fun hm => by have := hf k hm; omega⟩
theorem Kb.set (g i : Nat) (u : Value) (hg : g ∈ fp) (W : World) : Kb fp W (W.setCell ⟨g, i, none⟩ u) := ⟨rfl, rfl, rfl, by simp [World.setCell], fun k _ hf => Below.heap_setCell _ _ _ _ fun e => hf (by simp at e; rw [e]; exact hg)⟩
end
/-- A grid with a margin, row by row. -/
def Gr (W : World) (g : Nat) (ty : TypeId) (f : Int → Int → Value) (w h : Nat) : Prop :=
  ∃ cs, Blk W g ty cs ∧ ∀ X Y : Nat, X < w + 2 → Y < h + 2 → cs[Y * (w + 2) + X]? = some (f ((X : Int) - 1) ((Y : Int) - 1))
section
variable {W W' : World} {g w h : Nat} {ty : TypeId} {f : Int → Int → Value}
theorem Gr.lt (H : Gr W g ty f w h) : g < W.heap.size := H.elim fun _ H => H.1.lt
theorem Gr.keep (H : Gr W g ty f w h) (hk : W'.heap[g]? = W.heap[g]?) : Gr W' g ty f w h := by
  obtain ⟨cs, h1, h2⟩ := H
  exact ⟨cs, hk.trans h1, h2⟩
theorem Gr.free (H : Gr W g ty f w h) (i : Nat) : W.frozen? ⟨g, i, none⟩ = false := H.elim fun _ H => H.1.free i
/-- A cell, by its coordinates. -/
theorem Gr.at (H : Gr W g ty f w h) {x y : Int} {i : Nat} (hx : -1 ≤ x ∧ x ≤ w) (hy : -1 ≤ y ∧ y ≤ h) (hi : (i : Int) = (((y + 1).toNat * (w + 2) : Nat) : Int) + x + 1) : W.cell? ⟨g, i, none⟩ = some (f x y) := by
  obtain ⟨cs, h1, h2⟩ := H
  have := h2 (x + 1).toNat (y + 1).toNat (by omega) (by omega)
  rw [h1.cell, show i = (y + 1).toNat * (w + 2) + (x + 1).toNat by omega, this]
  congr 2 <;> omega
theorem Gr.put (H : Gr W g ty f w h) {x y : Int} {i : Nat} (hx : -1 ≤ x ∧ x ≤ w) (hy : -1 ≤ y ∧ y ≤ h) (hi : (i : Int) = (((y + 1).toNat * (w + 2) : Nat) : Int) + x + 1) (u : Value) : Gr (W.setCell ⟨g, i, none⟩ u) g ty (upd f x y u) w h := by
  obtain ⟨cs, h1, h2⟩ := H
  refine ⟨_, h1.set i u, fun X Y hX hY => ?_⟩
  have e : i = (y + 1).toNat * (w + 2) + (x + 1).toNat := by omega
  rw [Array.getElem?_setIfInBounds]
  by_cases hc : X = (x + 1).toNat ∧ Y = (y + 1).toNat
  · obtain ⟨rfl, rfl⟩ := hc
    have h3 := h2 _ _ hX hY
    rw [e, if_pos rfl, if_pos (Array.getElem?_eq_some_iff.1 h3).1]
    unfold upd
    rw [if_pos (by omega)]
  · rw [if_neg, h2 X Y hX hY]
    · unfold upd
      rw [if_neg (by omega)]
    · intro he
      rw [e] at he
      have := grid_inj (w := w + 2) (X := (x + 1).toNat) (X' := X) (by omega) hX he
      omega
end
/-- A block of the code at A, its values and flags at V, S, T, R. -/
structure Cb (W : World) (B A V S T R w h : Nat) (q : St) : Prop where
  fit : fits (w : Int) (h : Int)
  geA : B ≤ A
  geV : B ≤ V
  geS : B ≤ S
  geT : B ≤ T
  geR : B ≤ R
  obj : Blk W A 93 #[.int .i64 (w : Int), .int .i64 (h : Int), .slice (some ⟨V, 0, none⟩) ((w + 2) * (h + 2)) ((w + 2) * (h + 2)), .slice (some ⟨S, 0, none⟩) ((w + 2) * (h + 2)) ((w + 2) * (h + 2)), .slice (some ⟨T, 0, none⟩) ((w + 2) * (h + 2)) ((w + 2) * (h + 2)), .slice (some ⟨R, 0, none⟩) ((w + 2) * (h + 2)) ((w + 2) * (h + 2)), .pointer (some ⟨A, 0, none⟩)]
  gv : Gr W V 3 (fun x y => .int .i64 (q.v x y)) w h
  gs : Gr W S 5 (fun x y => .int .u8 (b8 (q.s x y))) w h
  gt : Gr W T 4 (fun x y => .bool (q.t x y)) w h
  gr : Gr W R 4 (fun x y => .bool (q.r x y)) w h
  tr : T ≠ R
  out : q.Out w h
section
variable {W W' : World} {B A V S T R w h g : Nat} {q : St}
theorem Gr.ne {g' : Nat} {ty ty' : TypeId} {f f' : Int → Int → Value} {w' h' : Nat} (H : Gr W g ty f w h) (H' : Gr W g' ty' f' w' h') (hne : ty ≠ ty') : g ≠ g' := by
  obtain ⟨_, h1, _⟩ := H
  obtain ⟨_, h2, _⟩ := H'
  exact h1.ne h2 hne
theorem Gr.neb {g' : Nat} {ty ty' : TypeId} {f : Int → Int → Value} {cs : Array Value} (H : Gr W g ty f w h) (H' : Blk W g' ty' cs) (hne : ty ≠ ty') : g ≠ g' := by
  obtain ⟨_, h1, _⟩ := H
  exact h1.ne H' hne
theorem Cb.keep (H : Cb W B A V S T R w h q) (hA : W'.heap[A]? = W.heap[A]?) (hV : W'.heap[V]? = W.heap[V]?) (hS : W'.heap[S]? = W.heap[S]?) (hT : W'.heap[T]? = W.heap[T]?) (hR : W'.heap[R]? = W.heap[R]?) : Cb W' B A V S T R w h q :=
  ⟨H.fit, H.geA, H.geV, H.geS, H.geT, H.geR, hA.trans H.obj, H.gv.keep hV, H.gs.keep hS, H.gt.keep hT, H.gr.keep hR, H.tr, H.out⟩
theorem Cb.kb {fp : List Nat} (H : Cb W B A V S T R w h q) (hk : Kb fp W W') (hA : A ∉ fp) (hV : V ∉ fp) (hS : S ∉ fp) (hT : T ∉ fp) (hR : R ∉ fp) : Cb W' B A V S T R w h q :=
  H.keep (hk.block A H.obj.lt hA) (hk.block V H.gv.lt hV) (hk.block S H.gs.lt hS) (hk.block T H.gt.lt hT) (hk.block R H.gr.lt hR)
theorem Cb.below (H : Cb W B A V S T R w h q) (hb : Below W.heap.size W W') : Cb W' B A V S T R w h q := H.kb (Kb.of_below [] hb) (by simp) (by simp) (by simp) (by simp) (by simp)
theorem Cb.cells (H : Cb W B A V S T R w h q) : W.cell? ⟨A, 0, none⟩ = some (.int .i64 (w : Int)) ∧ W.cell? ⟨A, 1, none⟩ = some (.int .i64 (h : Int)) ∧ W.cell? ⟨A, 2, none⟩ = some (.slice (some ⟨V, 0, none⟩) ((w + 2) * (h + 2)) ((w + 2) * (h + 2))) ∧ W.cell? ⟨A, 3, none⟩ = some (.slice (some ⟨S, 0, none⟩) ((w + 2) * (h + 2)) ((w + 2) * (h + 2))) ∧
    W.cell? ⟨A, 4, none⟩ = some (.slice (some ⟨T, 0, none⟩) ((w + 2) * (h + 2)) ((w + 2) * (h + 2))) ∧ W.cell? ⟨A, 5, none⟩ = some (.slice (some ⟨R, 0, none⟩) ((w + 2) * (h + 2)) ((w + 2) * (h + 2))) ∧ W.cell? ⟨A, 6, none⟩ = some (.pointer (some ⟨A, 0, none⟩)) :=
  ⟨H.obj.cell 0, H.obj.cell 1, H.obj.cell 2, H.obj.cell 3, H.obj.cell 4, H.obj.cell 5, H.obj.cell 6⟩
theorem St.Out.set {q : St} (H : q.Out w h) {x y : Int} (hin : inB w h x y) (a : Int) : ({ q with v := upd q.v x y a } : St).Out w h := fun X Y hn => by
  obtain ⟨h1, h2⟩ := H X Y hn
  refine ⟨?_, h2⟩
  show upd q.v x y a X Y = 0
  rw [upd_far, h1]
  rintro ⟨rfl, rfl⟩; exact hn hin
theorem St.Out.mark {q : St} (H : q.Out w h) {x y : Int} (hin : inB w h x y) (a : Bool) : ({ q with s := upd q.s x y a } : St).Out w h := fun X Y hn => by
  obtain ⟨h1, h2, h3⟩ := H X Y hn
  refine ⟨h1, ?_, h3⟩
  show upd q.s x y a X Y = false
  rw [upd_far, h2]
  rintro ⟨rfl, rfl⟩; exact hn hin
theorem St.Out.touch {q : St} (H : q.Out w h) {x y : Int} (hin : inB w h x y) (a : Bool) : ({ q with t := upd q.t x y a } : St).Out w h := fun X Y hn => by
  obtain ⟨h1, h2, h3, h4⟩ := H X Y hn
  refine ⟨h1, h2, ?_, h4⟩
  show upd q.t x y a X Y = false
  rw [upd_far, h3]
  rintro ⟨rfl, rfl⟩; exact hn hin
theorem St.Out.refine {q : St} (H : q.Out w h) {x y : Int} (hin : inB w h x y) (a : Bool) : ({ q with r := upd q.r x y a } : St).Out w h := fun X Y hn => by
  obtain ⟨h1, h2, h3, h4⟩ := H X Y hn
  refine ⟨h1, h2, h3, ?_⟩
  show upd q.r x y a X Y = false
  rw [upd_far, h4]
  rintro ⟨rfl, rfl⟩; exact hn hin
end
end Go.Proofs.YtnmmgjbjnhiaoaaDoor
