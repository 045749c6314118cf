/-
  Two objects side by side: what is one's own stays where the other one is used. What calls append, in numbers.
-/
import Derived.Test.YtaddendclipkkaaFrameO
set_option maxRecDepth 100000
namespace Go.Proofs.Ytaddendclipkkaa
open Go.RowKit

/-- The blocks of two objects have nothing in common. -/
def Dj (w : World) (a b : Nat) : Prop := ∀ k, Fp w a k → Fp w b k → False
theorem Dj.symm {w : World} {a b : Nat} (h : Dj w a b) : Dj w b a := fun k x y => h k y x
theorem fp_same {w w1 : World} {b : Nat} (h : w1.heap[b]? = w.heap[b]?) (k : Nat) : Fp w1 b k ↔ Fp w b k := by
  have e : w1.cell? ⟨b, 1, none⟩ = w.cell? ⟨b, 1, none⟩ := World.cell?_of_block (w := w) (a := ⟨b, 1, none⟩) h
  unfold Fp
  rw [e]
theorem Dj.kp {w w1 : World} {a b : Nat} (hd : Dj w a b) (hk : Kp a w w1) (hb : ∀ k, Fp w b k → k < w.heap.size) : Dj w1 a b ∧ ∀ k, Fp w b k → w1.heap[k]? = w.heap[k]? := by
  have hs : ∀ k, Fp w b k → w1.heap[k]? = w.heap[k]? := fun k hf => hk.block k (hb k hf) fun ha => hd k ha hf
  refine ⟨fun k ha hf => ?_, hs⟩
  rw [fp_same (hs b (.inl rfl))] at hf
  rcases hk.foot k ha with h | h
  · exact hd k h hf
  · have := hb k hf; omega
theorem Dj.below {w w1 : World} {a b : Nat} (hd : Dj w a b) (hb : Below w.heap.size w w1) (ha : a < w.heap.size) (hbl : b < w.heap.size) : Dj w1 a b := fun k x y =>
  hd k ((fp_same (hb.block a ha) k).1 x) ((fp_same (hb.block b hbl) k).1 y)
/-- A second object, newly made. -/
theorem Dj.new {w w1 : World} {a b : Nat} (hb : Below w.heap.size w w1) (ha : ∀ k, Fp w a k → k < w.heap.size) (hbf : ∀ k, Fp w1 b k → w.heap.size ≤ k) : Dj w1 a b := fun k x y => by
  have h1 := ha k ((fp_same (hb.block a (ha a (.inl rfl))) k).1 x)
  have := hbf k y
  omega
theorem Wr.fl {w : World} {B a : Nat} {l : List Int} (h : Wr w B a l) : ∀ k, Fp w a k → k < w.heap.size := fun k hk => (h.foot k hk).2
theorem Vr.fl {w : World} {B a : Nat} {l : List Int} (h : Vr w B a l) : ∀ k, Fp w a k → k < w.heap.size := fun k hk => (h.foot k hk).2
theorem Rd.fl {w : World} {B a : Nat} {l : List Int} {t : Nat} (h : Rd w B a l t) : ∀ k, Fp w a k → k < w.heap.size := fun k hk => (h.foot k hk).2
theorem Vr.kp {w w1 : World} {B a b : Nat} {l : List Int} (h : Vr w B b l) (hd : Dj w a b) (hk : Kp a w w1) : Vr w1 B b l ∧ Dj w1 a b := ⟨h.keep (hd.kp hk h.fl).2, (hd.kp hk h.fl).1⟩
theorem Wr.kp {w w1 : World} {B a b : Nat} {l : List Int} (h : Wr w B b l) (hd : Dj w a b) (hk : Kp a w w1) : Wr w1 B b l ∧ Dj w1 a b := ⟨h.keep (hd.kp hk h.fl).2, (hd.kp hk h.fl).1⟩
theorem Rd.kp {w w1 : World} {B a b : Nat} {l : List Int} {t : Nat} (h : Rd w B b l t) (hd : Dj w a b) (hk : Kp a w w1) : Rd w1 B b l t ∧ Dj w1 a b := ⟨h.keep (hd.kp hk h.fl).2, (hd.kp hk h.fl).1⟩
/-- A block that is not the object's. -/
theorem Blk.kp {w w1 : World} {a g : Nat} {t : TypeId} {cs : Array Value} (h : Blk w g t cs) (hk : Kp a w w1) (hn : ¬ Fp w a g) : Blk w1 g t cs := (hk.block g h.lt hn).trans h
theorem Wr.notop {w : World} {B a g : Nat} {l : List Int} {cs : Array Value} (h : Wr w B a l) (hg : Blk w g 38 cs) : ¬ Fp w a g := by
  obtain ⟨sv, h⟩ := h
  rintro (rfl | ⟨v, hv, hk⟩)
  · exact Blk.ne (t := 38) hg h.blk (by decide) rfl
  · rw [h.open.2.1] at hv
    obtain rfl := Option.some.inj hv
    exact own_blk_ne h.own hg (by decide) hk
theorem Vr.notop {w : World} {B a g : Nat} {l : List Int} {cs : Array Value} (h : Vr w B a l) (hg : Blk w g 38 cs) : ¬ Fp w a g := by
  obtain ⟨sv, h⟩ := h
  rintro (rfl | ⟨v, hv, hk⟩)
  · exact Blk.ne (t := 38) hg h.blk (by decide) rfl
  · rw [show w.cell? ⟨a, 1, none⟩ = some sv from h.blk.cell 1] at hv
    obtain rfl := Option.some.inj hv
    exact own_blk_ne h.own hg (by decide) hk
theorem wrM_len (k v n : Int) : ((wrM k v n).length : Int) ≤ 64 + if k = 3 ∧ 0 < v ∧ v ≤ 65535 then v else 0 := by
  have h1 := bitsM_len v 1
  have h2 := bitsM_len v n
  have hg : (gamM v).length ≤ 64 := by
    unfold gamM
    split
    · rename_i h
      simp [gamB] at h
      have := bl_bd (n := v.toNat) (by omega) (by omega)
      simp [Bi.gam, Bi.dig_len]; omega
    · simp
  unfold wrM
  by_cases e0 : k = 0
  · rw [if_pos e0, if_neg (by omega)]; omega
  · rw [if_neg e0]
    by_cases e1 : k = 1
    · rw [if_pos e1, if_neg (by omega)]; omega
    · rw [if_neg e1]
      by_cases e2 : k = 2
      · rw [if_pos e2, if_neg (by omega)]; omega
      · rw [if_neg e2]
        by_cases e3 : k = 3
        · rw [if_pos e3]
          unfold unaM
          split
          · rename_i h
            simp [unB] at h
            simp only [Bi.una, List.length_append, List.length_replicate, List.length_singleton]
            split <;> omega
          · simp; split <;> omega
        · rw [if_neg e3]; simp; split <;> omega
theorem unaN_take (l : List (Int × Int × Int)) (k : Nat) : unaN (l.take k) ≤ unaN l := by
  have e : unaN l = unaN (l.take k) + unaN (l.drop k) := by
    simp only [unaN, List.map_take, List.map_drop]
    rw [← List.sum_append, List.take_append_drop]
  have := (unaN_bd (l.drop k)).1
  omega
/-- What the first calls of a list append. -/
def wrL (l : List (Int × Int × Int)) : List Int := (l.map fun q => wrM q.1 q.2.1 q.2.2).flatten
theorem wrL_snoc (l : List (Int × Int × Int)) (q : Int × Int × Int) : wrL (l ++ [q]) = wrL l ++ wrM q.1 q.2.1 q.2.2 := by simp [wrL]
theorem wrL_bits (l : List (Int × Int × Int)) : Bi.bits (wrL l) := by
  intro x hx
  simp only [wrL, List.mem_flatten, List.mem_map] at hx
  obtain ⟨m, ⟨q, _, rfl⟩, hx⟩ := hx
  exact wrM_bits _ _ _ x hx
theorem wrL_len (l : List (Int × Int × Int)) : ((wrL l).length : Int) ≤ 64 * l.length + unaN l := by
  induction l with
  | nil => simp [wrL, unaN]
  | cons q l ih =>
    have e : wrL (q :: l) = wrM q.1 q.2.1 q.2.2 ++ wrL l := by simp [wrL]
    have e2 : unaN (q :: l) = (if q.1 = 3 ∧ 0 < q.2.1 ∧ q.2.1 ≤ 65535 then q.2.1 else 0) + unaN l := by simp [unaN]
    have := wrM_len q.1 q.2.1 q.2.2
    rw [e, e2, List.length_append, List.length_cons]
    omega
theorem wrL_few {l : List (Int × Int × Int)} (h : fewO l = true) (k : Nat) : (wrL (l.take k)).length ≤ 82800 := by
  simp [fewO] at h
  have h1 := wrL_len (l.take k)
  have h2 := unaN_take l k
  have h3 : (l.take k).length ≤ 200 := by simp; omega
  omega
end Go.Proofs.Ytaddendclipkkaa
