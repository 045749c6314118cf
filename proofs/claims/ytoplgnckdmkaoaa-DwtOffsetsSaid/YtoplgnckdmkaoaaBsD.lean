/-
  Layers 1 to 5, the base: PlnK, PlnL, PlnM, PlnN of one piece.
-/
import Derived.Test.YtoplgnckdmkaoaaBsC
import Derived.Deep.RegionLaw
set_option maxRecDepth 100000
namespace Go.Proofs.Ytoplgnckdmkaoaa
open Go.RowKit

theorem clipL_len (lo hi : Int) (l : List Int) : (clipL lo hi l).length = l.length := by simp [clipL]
/-- A plane of the call's own stands in its variable. -/
structure Made3 (w : World) (P Z : Nat) (rp : Pl.R) (vp : Value) (q : Pl.R) (L : List Int) (W : World) (g B : Nat) : Prop where
  p : QBox W P rp vp
  z : QBox W Z ⟨0, 0, 0, 0⟩ (.slice none 0 0)
  part : QBox W B q (.slice (some ⟨g, 0, none⟩) L.length L.length)
  row : RowAt W g L
  below : Below w.heap.size w W
  hP : P < Z
  hw : w.heap.size ≤ P
  hg : Z < g
  hB : Z < B
  hne : g ≠ B
theorem made3a {w w4 : World} {P Z : Nat} {rp : Pl.R} {vp : Value} (p4 : QBox w4 P rp vp) (z4 : QBox w4 Z ⟨0, 0, 0, 0⟩ (.slice none 0 0)) (B4 : Below w.heap.size w w4) (hP : P < Z) (hw : w.heap.size ≤ P) (n : Nat) (a b c d : Int) :
    Made3 w P Z rp vp ⟨a, b, c, d⟩ (List.replicate n 0) ((w4.alloc (zeroRow n)).alloc (.cells #[.int .i64 a, .int .i64 b, .int .i64 c, .int .i64 d, .slice (some ⟨w4.heap.size, 0, none⟩) n n] 26)) w4.heap.size (w4.heap.size + 1) := by
  have hz := z4.lt
  have e : (w4.alloc (zeroRow n)).heap.size = w4.heap.size + 1 := by simp
  refine ⟨(p4.alloc _).alloc _, (z4.alloc _).alloc _, ?_, ?_, ?_, hP, hw, hz, by omega, by omega⟩
  · rw [List.length_replicate]; exact QBox.freshAt (w4.alloc (zeroRow n)) (w4.heap.size + 1) e.symm a b c d (some ⟨w4.heap.size, 0, none⟩) n n 26
  · exact (rowAt_made w4 n).below ((Below.refl _ _).alloc (Nat.le_refl _) _)
  · exact (B4.alloc (by omega) _).alloc (by rw [e]; omega) _
theorem made3b {w w4 : World} {P Z : Nat} {rp : Pl.R} {vp : Value} (p4 : QBox w4 P rp vp) (z4 : QBox w4 Z ⟨0, 0, 0, 0⟩ (.slice none 0 0)) (B4 : Below w.heap.size w w4) (hP : P < Z) (hw : w.heap.size ≤ P) (n : Nat) (a b c d : Int) :
    Made3 w P Z rp vp ⟨a, b, c, d⟩ (List.replicate n 0) ((w4.alloc (.cells #[.int .i64 a, .int .i64 b, .int .i64 c, .int .i64 d, .slice (some ⟨w4.heap.size + 1, 0, none⟩) n n] 26)).alloc (zeroRow n)) (w4.heap.size + 1) w4.heap.size := by
  have hz := z4.lt
  have e : (w4.alloc (.cells #[.int .i64 a, .int .i64 b, .int .i64 c, .int .i64 d, .slice (some ⟨w4.heap.size + 1, 0, none⟩) n n] 26)).heap.size = w4.heap.size + 1 := by simp
  refine ⟨(p4.alloc _).alloc _, (z4.alloc _).alloc _, ?_, ?_, ?_, hP, hw, by omega, hz, by omega⟩
  · rw [List.length_replicate]; exact (QBox.fresh w4 a b c d (some ⟨w4.heap.size + 1, 0, none⟩) n n 26).alloc (zeroRow n)
  · have := rowAt_made (w4.alloc (.cells #[.int .i64 a, .int .i64 b, .int .i64 c, .int .i64 d, .slice (some ⟨w4.heap.size + 1, 0, none⟩) n n] 26)) n
    rw [e] at this
    exact this
  · exact (B4.alloc (by omega) _).alloc (by rw [e]; omega) _
theorem Made3.drew {w W : World} {P Z g B : Nat} {rp q : Pl.R} {vp : Value} {L : List Int} (h : Made3 w P Z rp vp q L W g B) : Made3 w P Z rp vp q L W.drew g B :=
  ⟨h.p.drew, h.z.drew, h.part.drew, h.row, h.below.drew, h.hP, h.hw, h.hg, h.hB, h.hne⟩
theorem Made3.set {w W : World} {P Z g B : Nat} {rp q : Pl.R} {vp : Value} {L : List Int} (h : Made3 w P Z rp vp q L W g B) (k : Nat) (v : Int) : Made3 w P Z rp vp q (L.set k v) (W.setCell ⟨g, k, none⟩ (.int .i64 v)) g B := by
  have h1 := h.hP
  have h2 := h.hw
  have h3 := h.hg
  have h4 := h.hB
  have h5 := h.hne
  exact ⟨h.p.far _ _ (by show P ≠ g; omega), h.z.far _ _ (by show Z ≠ g; omega), by rw [List.length_set]; exact h.part.far _ _ h5.symm, h.row.set k v, h.below.setCell (by show w.heap.size ≤ g; omega) _, h1, h2, h3, h4, h5⟩
theorem clip_at {lo hi : Int} {l : List Int} {k : Nat} (hk : k < l.length) : (clipL lo hi l)[k]'(by rw [clipL_len]; exact hk) = min (max l[k] lo) hi := by simp [clipL, clipI]
end Go.Proofs.Ytoplgnckdmkaoaa

namespace Go.Proofs.Ytoplgnckdmkaoaa
open Go.RowKit

def smB (a b c d : Int) : Bool := decide (Pl.validB a b c d = true ∧ c - a ≤ 20 ∧ d - b ≤ 20)
def vsB (a b c d : Int) (n : Nat) : Bool := pvB a b c d n && smB a b c d
theorem foldI_zero {f : Int → Int → Int} {l : List Int} (h : 0 < l.length) (hf : f l[0] l[0] = l[0]) : foldI f (l.take 1) = f l[0] l[0] := by rw [foldI_one f l h, hf]
theorem fold_next (f : Int → Int → Int) (hf : ∀ x, f x x = x) {l : List Int} {k : Nat} (h0 : 0 < l.length) (hk : k < l.length) : f (foldI f (l.take (max k 1))) l[k] = foldI f (l.take (max (k + 1) 1)) := by
  by_cases h : k = 0
  · subst h
    show f (foldI f (l.take 1)) l[0] = foldI f (l.take 1)
    rw [foldI_one f l h0, hf]
  · rw [show max k 1 = k by omega, show max (k + 1) 1 = k + 1 by omega, foldI_succ f l k (by omega) hk]
end Go.Proofs.Ytoplgnckdmkaoaa

namespace Go.Proofs.Ytoplgnckdmkaoaa
open Go.RowKit

/-- append to a row of the call's own, as one step of a region that draws its order. -/
theorem step_append_own {P : Program} {ops : Array Oper} {o : Oper} {act : Act} {w : World} {K : Act → World → Prop} {Q : Exit → Act → World → Prop} {E : Prop} (hgd : o.guard = none) (s x : Operand) (t : TypeId)
    (ho : o.op = .call { callee := .builtin .append, args := #[s, x], argTypes := #[t, t] })
    (base : Nat) (e : TypeId) (i : TypeInfo) (z : Value) (size bytes : Nat) (ht : P.underlying t = some (.slice e)) (hi : P.info? e = some i) (hz : i.zero = some z)
    (hsize : i.size = size) (hby : i.bytes = bytes) (hzs : z.cells.size = size) (hsz : 0 < size)
    (v : Value) (n : Nat) (xs : List Value) (hs : act.eval s = v) (hown : w.ownsRow base e size v n xs)
    (ad : Addr) (m c : Nat) (news : List Value) (hx : act.eval x = .slice (some ad) m c) (hl : news.length = m * size) (hnews : ∀ j u, news[j]? = some u → w.cell? (ad.add j) = some u) (h1 : ∀ u ∈ news, u.oneCell' = true)
    (h63 : n + m ≤ maxLen) (hbytes : (n + m) * bytes ≤ 140737488355328) (hbase : base ≤ w.heap.size)
    (h : ∀ v' w', w'.ownsRow base e size v' (n + m) (xs ++ news) → w.grownBy w' v.ownBlock → K (act.put o.dst v') w') :
    if Region.wanted o (yielded ops act.tmps) = true then Oper.wp P o act w K Q else E := by
  have hw : Region.wanted o (yielded ops act.tmps) = true := by simp [Region.wanted, hgd]
  rw [if_pos hw]
  exact wp_append_own w s x t ho base e i z size bytes ht hi hz hsize hby hzs hsz v n xs hs hown ad m c news hx hl hnews h1 h63 hbytes hbase fun v' w' h2 h3 _ => h v' w' h2 h3
theorem own_below {w w1 : World} {base n : Nat} {e : TypeId} {v : Value} {xs : List Value} (h : w.ownsRow base e 1 v n xs) (hb : Below w.heap.size w w1) : w1.ownsRow base e 1 v n xs := by
  obtain ⟨h1, h2⟩ := h
  refine ⟨h1, ?_⟩
  rcases h2 with h | ⟨g, cap, cur, rfl, h3, h4, h5⟩
  · exact .inl h
  · exact .inr ⟨g, cap, cur, rfl, h3, (hb.block g (Array.getElem?_eq_some_iff.1 h4).1).trans h4, h5⟩
theorem own_slice {w : World} {base n : Nat} {e : TypeId} {v : Value} {xs : List Value} (h : w.ownsRow base e 1 v n xs) : ∃ s m, v = .slice s n m := by
  obtain ⟨_, h2⟩ := h
  rcases h2 with ⟨rfl, rfl⟩ | ⟨g, cap, cur, rfl, _⟩
  · exact ⟨none, 0, rfl⟩
  · exact ⟨_, cap, rfl⟩
theorem own_set {w : World} {base n : Nat} {e : TypeId} {v : Value} {xs : List Value} (h : w.ownsRow base e 1 v n xs) (a : Addr) (u : Value) (ha : a.block < base) : (w.setCell a u).ownsRow base e 1 v n xs := by
  obtain ⟨h1, h2⟩ := h
  refine ⟨h1, ?_⟩
  rcases h2 with h | ⟨g, cap, cur, rfl, h3, h4, h5⟩
  · exact .inl h
  · exact .inr ⟨g, cap, cur, rfl, h3, (Below.heap_setCell _ _ _ _ (by omega)).trans h4, h5⟩
theorem QBox.set4 {w : World} {B : Nat} {r : Pl.R} {v : Value} (h : QBox w B r v) (u : Value) : QBox (w.setCell ⟨B, 4, none⟩ u) B r u := by
  obtain ⟨c0, c1, c2, c3, c4⟩ := h.open
  refine ⟨by simp [RectAt, go_sem, c0, c1, c2, c3], by simp [go_sem, c4], fun j => ?_, by have := h.lt; simpa [World.setCell] using this⟩
  simp only [World.frozen?_setCell]
  exact h.free j
/-- A plane's variable whose list grows; all below it is as it was. -/
structure Gr (wB : World) (B : Nat) (q : Pl.R) (v : Value) (out : List Int) (W : World) : Prop where
  below : Below B wB W
  o : QBox W B q v
  own : W.ownsRow (B + 1) 3 1 v out.length (out.map (Value.int .i64))
theorem Gr.step {wB W W1 : World} {B : Nat} {q : Pl.R} {v : Value} {out : List Int} (h : Gr wB B q v out W) (hb : Below W.heap.size W W1) : Gr wB B q v out W1 :=
  ⟨bcall h.below hb (by have := h.o.lt; omega), h.o.below hb, own_below h.own hb⟩
theorem Gr.push {wB W W2 : World} {B : Nat} {q : Pl.R} {v v' : Value} {out : List Int} {x : Int} (h : Gr wB B q v out W) (X : Obj) (hg : (W.alloc X).grownBy W2 v.ownBlock) (hown : W2.ownsRow (B + 1) 3 1 v' (out.length + 1) (out.map (Value.int .i64) ++ [.int .i64 x])) :
    Gr wB B q v' (out ++ [x]) (W2.setCell ⟨B, 4, none⟩ v') := by
  have hlt := h.o.lt
  have hb : Below (B + 1) W W2 := ((Below.refl _ _).alloc (by omega) _).grown hg (by simp; omega) (fun k hk => (h.own.lt k hk).1)
  refine ⟨(h.below.trans (hb.mono (by omega))).setCell (Nat.le_refl _) _, (h.o.belowAt hb (by omega)).set4 v', ?_⟩
  have := own_set hown ⟨B, 4, none⟩ v' (by show B < B + 1; omega)
  simpa using this
theorem Gr.start {w : World} (a b c d : Int) : Gr w w.heap.size ⟨a, b, c, d⟩ (.slice none 0 0) [] (w.alloc (.cells #[.int .i64 a, .int .i64 b, .int .i64 c, .int .i64 d, .slice none 0 0] 26)) :=
  ⟨(Below.refl _ _).alloc (Nat.le_refl _) _, QBox.fresh w a b c d none 0 0 26, World.ownsRow_nil _ _ _ _⟩
/-- At the end the variable holds the list. -/
theorem Gr.ints {wB W : World} {B : Nat} {q : Pl.R} {v : Value} {out : List Int} (h : Gr wB B q v out W) : ∃ s m, v = .slice s out.length m ∧ out.length ≤ m ∧ (out = [] ∨ ∃ g pad, s = some ⟨g, 0, none⟩ ∧ B < g ∧ RowP W g out pad) := by
  obtain ⟨_, (⟨rfl, rfl⟩ | ⟨g, m, pad, rfl, hb, hr, hm⟩)⟩ := rowP_own h.own
  · exact ⟨none, 0, rfl, Nat.le_refl _, .inl rfl⟩
  · exact ⟨some ⟨g, 0, none⟩, m, rfl, hm, .inr ⟨g, pad, rfl, by omega, hr⟩⟩
/-- At the end: the list behind the results that are stored. -/
theorem Gr.gives {wB W : World} {B : Nat} {q : Pl.R} {v : Value} {out : List Int} (h : Gr wB B q v out W) {L : List Int} (e : out = L) (Z : Nat) (hZ : Z < B) :
    ∃ s m, v = .slice s L.length m ∧ L.length ≤ m ∧ ∀ v0 v1 v2 v3 v4, HoldsI (((((W.setCell ⟨Z, 0, none⟩ v0).setCell ⟨Z, 1, none⟩ v1).setCell ⟨Z, 2, none⟩ v2).setCell ⟨Z, 3, none⟩ v3).setCell ⟨Z, 4, none⟩ v4) s L := by
  subst e
  obtain ⟨s, m, rfl, hm, h2⟩ := h.ints
  refine ⟨s, m, rfl, hm, fun v0 v1 v2 v3 v4 => ?_⟩
  rcases h2 with h2 | ⟨g, pad, rfl, hg, hr⟩
  · exact .inl h2
  · exact (hr.far5 (by omega) _ _ _ _ _).holds
theorem has_cont {a b c d a' b' c' d' x y : Int} (hc : Pl.contB a b c d a' b' c' d' = true) (hh : Pl.hasB a' b' c' d' x y = true) : Pl.hasB a b c d x y = true := by
  have h1 := Pl.has_iff.1 hh
  have h2 := Pl.cont_iff.1 hc
  exact Pl.has_iff.2 ⟨by omega, by omega, by omega, by omega⟩
theorem one_new (W : World) (x : Int) (T : TypeId) : ∀ j u, ([.int .i64 x] : List Value)[j]? = some u → (W.alloc (.cells #[.int .i64 x] T)).cell? ((⟨W.heap.size, 0, none⟩ : Addr).add j) = some u := by
  intro j u hj
  match j, hj with
  | 0, hj => simp at hj; subst hj; simp [Addr.add]
theorem oneOne (x : Int) : ∀ u ∈ ([.int .i64 x] : List Value), u.oneCell' = true := by
  intro u hu; simp at hu; subst hu; rfl
end Go.Proofs.Ytoplgnckdmkaoaa

namespace Go.Proofs.Ytoplgnckdmkaoaa
open Go.RowKit

theorem clip_take {lo hi : Int} {l : List Int} {k : Nat} (hk : k < l.length) : (clipL lo hi l).take k ++ [min (max l[k] lo) hi] = (clipL lo hi l).take (k + 1) := by
  rw [List.take_succ_eq_append_getElem (by rw [clipL_len]; exact hk), clip_at hk]
end Go.Proofs.Ytoplgnckdmkaoaa
