/-
  Layer 28: a row of segments whose bytes lie in the memory that came in.
-/
import Derived.Test.YtagfmmkhgggfmaaMw
import Derived.Test.YtagfmmkhgggfmaaMz
set_option maxRecDepth 100000
namespace Go.Proofs.Ytagfmmkhgggfmaa
open Go.RowKit

/-- A row of segments of the call's own, over bytes that were there. -/
structure RwT (w : World) (v : Value) (Q : List (Int × Value)) (l : List (Int × List Int)) (wr : World) : Prop where
  own : wr.ownsRow w.heap.size 26 2 v Q.length (Q.flatMap sgV)
  len : Q.length = l.length
  els : ∀ i (h1 : i < Q.length) (h2 : i < l.length), Q[i].1 = l[i].1 ∧ ∃ s m, Q[i].2 = .slice s l[i].2.length m ∧ HoldsB w s l[i].2 ∧ (s = none → l[i].2 = [] ∧ m = 0)
  below : Below w.heap.size w wr
theorem RwT.nil (w : World) : RwT w (.slice none 0 0) [] [] w := ⟨World.ownsRow_nil _ _ _ _, rfl, fun i h1 _ => by simp at h1, Below.refl _ _⟩
theorem RwT.call {w wr w2 : World} {v : Value} {Q : List (Int × Value)} {l : List (Int × List Int)} (h : RwT w v Q l wr) (hb : Below wr.heap.size wr w2) : RwT w v Q l w2 :=
  ⟨own2_below h.own hb, h.len, h.els, below_call h.below hb⟩
theorem RwT.holds {w wr : World} {v : Value} {Q : List (Int × Value)} {l : List (Int × List Int)} (h : RwT w v Q l wr) : ∃ s m, v = .slice s l.length m ∧ HoldsS wr s Q l := by
  have hlen := h.len
  rcases h.own.2 with ⟨rfl, h0⟩ | ⟨g, cap, cur, rfl, hb, hg, hc, hm, hs, ht⟩
  · have : Q = [] := List.length_eq_zero_iff.1 h0
    subst this
    have : l = [] := List.length_eq_zero_iff.1 hlen.symm
    subst this
    exact ⟨none, 0, rfl, rfl, .inl rfl⟩
  · refine ⟨_, cap, by rw [hlen], hlen, .inr ⟨g, 0, rfl, fun k h1 h2 => ?_⟩⟩
    obtain ⟨a0, a1⟩ := sg_at Q k h1
    rw [← ht, List.getElem?_take_of_lt (by omega)] at a0 a1
    obtain ⟨q1, s1, m1, e1, hh, hn⟩ := h.els k h1 h2
    refine ⟨?_, ?_, s1, m1, e1, hh.below h.below (Nat.le_refl _), hn⟩
    · rw [← q1, Nat.zero_add]
      simp only [World.cell?, hg]
      rw [Array.getElem?_toList] at a0
      simpa using a0
    · rw [Nat.zero_add]
      simp only [World.cell?, hg]
      rw [Array.getElem?_toList] at a1
      simpa using a1
theorem wpAppT {ops : Array Oper} {rest : List Oper} {o : Oper} {a : Act} {Z : Exit → Act → World → Prop} {w wr : World} (hgd : o.guard = none) (s x : Operand)
    (ho : o.op = .call { callee := .builtin .append, args := #[s, x], argTypes := #[33, 33] })
    (v : Value) (Q : List (Int × Value)) (l : List (Int × List Int)) (hs : a.eval s = v) (hr : RwT w v Q l wr)
    (g c : Nat) (code : Int) (sp : Option Addr) (mp : Nat) (p : List Int) (hx : a.eval x = .slice (some ⟨g, 0, none⟩) 1 c) (h0 : wr.cell? ⟨g, 0, none⟩ = some (.int .i64 code)) (h1 : wr.cell? ⟨g, 1, none⟩ = some (.slice sp p.length mp)) (hp : HoldsB w sp p) (hsp : sp = none → p = [] ∧ mp = 0) (hlen : Q.length ≤ 1000000000)
    (bv : Value) (bl : List Int) (hb : wr.ownsRow w.heap.size 5 1 bv bl.length (bl.map (Value.int .u8)))
    (h : ∀ (v' : Value) (w' : World), Hid (RwT w v' (Q ++ [(code, .slice sp p.length mp)]) (l ++ [(code, p)]) w') → Hid (w'.ownsRow w.heap.size 5 1 bv bl.length (bl.map (Value.int .u8))) → wpList Try.prog ops Z rest (a.put o.dst v') w') :
    wpList Try.prog ops Z (o :: rest) a wr := by
  obtain ⟨i0, hi, hz0, hz1, hz2⟩ := info_parts infoSg
  refine wpList_append_own _ hgd s x 33 ho w.heap.size 26 i0 (.agg #[.int .i64 0, .slice none 0 0]) 2 32 Try.underlying33 hi hz0 hz1 hz2 rfl (by decide) v Q.length (Q.flatMap sgV) hs hr.own ⟨g, 0, none⟩ 1 c [.int .i64 code, .slice sp p.length mp] hx rfl ?_ ?_ (by unfold maxLen; omega) (by omega) hr.below.size ?_
  · intro j u hj
    match j, hj with
    | 0, hj => simp at hj; subst hj; simpa [Addr.add] using h0
    | 1, hj => simp at hj; subst hj; simpa [Addr.add] using h1
  · intro u hu
    simp at hu
    rcases hu with rfl | rfl <;> rfl
  · intro v' w' hown hgrow _
    refine h v' w' (Lib.hid ⟨?_, by simp [hr.len], ?_, ?_⟩) (Lib.hid (own_grown8 hb hgrow (fun k hk => own_apart hb hr.own (by decide) k hk)))
    · have := hown
      rw [List.length_append, List.flatMap_append]
      simpa [sgV] using this
    · intro i h1 h2
      by_cases hq : i < Q.length
      · rw [List.getElem_append_left hq, List.getElem_append_left (by rw [← hr.len]; exact hq)]
        exact hr.els i hq _
      · have e1 : i = Q.length := by simp at h1; omega
        have e2 : i = l.length := by rw [← hr.len]; exact e1
        rw [List.getElem_append_right (by omega), List.getElem_append_right (by omega)]
        simp only [List.getElem_singleton]
        refine ⟨?_, sp, mp, ?_, hp, hsp⟩ <;> (first | rfl | trivial)
    · exact hr.below.grown hgrow hr.below.size (fun k hk => (hr.own.lt k hk).1)
/-- What stands before the loop of the law over lists. -/
structure Lst (w : World) (k : Nat) (bv gv : Value) (Q : List (Int × Value)) (gl : List (Int × List Int)) (wr : World) : Prop where
  row : RwT w gv Q gl wr
  own : wr.ownsRow w.heap.size 5 1 bv (Mk.flat gl).length ((Mk.flat gl).map (Value.int .u8))
  mid : ∀ x ∈ gl, Mk.mid x
  few : gl.length ≤ k
  short : (Mk.flat gl).length ≤ 504 * k
  byt : Mk.bytes (Mk.flat gl)
theorem Lst.start (w : World) : Lst w 0 (.slice none 0 0) (.slice none 0 0) [] [] w :=
  ⟨RwT.nil w, World.ownsRow_nil _ _ _ _, fun x hx => by simp at hx, Nat.zero_le _, by simp [Mk.flat], fun x hx => by simp [Mk.flat] at hx⟩
theorem Lst.call {w wr w2 : World} {k : Nat} {bv gv : Value} {Q : List (Int × Value)} {gl : List (Int × List Int)} (h : Lst w k bv gv Q gl wr) (hb : Below wr.heap.size wr w2) : Lst w k bv gv Q gl w2 :=
  ⟨h.row.call hb, own2_below h.own hb, h.mid, h.few, h.short, h.byt⟩
theorem Lst.more {w wr : World} {k : Nat} {bv gv : Value} {Q : List (Int × Value)} {gl : List (Int × List Int)} (h : Lst w k bv gv Q gl wr) : Lst w (k + 1) bv gv Q gl wr :=
  ⟨h.row, h.own, h.mid, by have := h.few; omega, by have := h.short; omega, h.byt⟩
theorem flat_snoc (gl : List (Int × List Int)) (c : Int) (p : List Int) : Mk.flat (gl ++ [(c, p)]) = Mk.flat gl ++ Mk.seg c p := by simp [Mk.flat]
theorem flat_ge (gl : List (Int × List Int)) : gl.length ≤ (Mk.flat gl).length := by
  induction gl with
  | nil => simp
  | cons x gl ih =>
    have : 1 ≤ (Mk.seg x.1 x.2).length := by
      unfold Mk.seg
      split <;> simp [Mk.dg_len] <;> omega
    simp only [Mk.flat, List.flatMap_cons, List.length_append, List.length_cons] at *
    omega
theorem seg_len (c : Int) (p : List Int) : (Mk.seg c p).length ≤ 4 + p.length := by
  unfold Mk.seg
  split <;> simp [Mk.dg_len] <;> omega
theorem seg_bytes (c : Int) (p : List Int) (h : Mk.bytes p) : Mk.bytes (Mk.seg c p) := by
  unfold Mk.seg
  split
  · exact Mk.dg_bytes _ _
  · exact Mk.bytes_app (Mk.bytes_app (Mk.dg_bytes _ _) (Mk.dg_bytes _ _)) h
end Go.Proofs.Ytagfmmkhgggfmaa
