/-
  Layer 23: headers and parameters in memory, and what keeps them. Plain laws on worlds.
-/
import Derived.Test.YtkcjbehfhcmiaaaHp
import Derived.Test.YtkcjbehfhcmiaaaKt
set_option maxRecDepth 100000
namespace Go.Proofs.Ytkcjbehfhcmiaaa
open Go.RowKit

/-- The components of a list, one after the other; likewise points. -/
def CmAt (w : World) (b o : Nat) (c : Hp.Cm) : Prop :=
  w.cell? ⟨b, o, none⟩ = some (.int .i64 c.depth) ∧ w.cell? ⟨b, o + 1, none⟩ = some (.bool c.sg) ∧ w.cell? ⟨b, o + 2, none⟩ = some (.int .i64 c.dx) ∧ w.cell? ⟨b, o + 3, none⟩ = some (.int .i64 c.dy)
def PtAt (w : World) (b o : Nat) (c : Hp.Pt) : Prop :=
  w.cell? ⟨b, o, none⟩ = some (.int .i64 c.x) ∧ w.cell? ⟨b, o + 1, none⟩ = some (.int .i64 c.y)
def HoldsC (w : World) (a : Option Addr) (l : List Hp.Cm) : Prop := l = [] ∨ ∃ b o, a = some ⟨b, o, none⟩ ∧ ∀ k (_ : k < l.length), CmAt w b (o + k * 4) l[k]
def HoldsP (w : World) (a : Option Addr) (l : List Hp.Pt) : Prop := l = [] ∨ ∃ b o, a = some ⟨b, o, none⟩ ∧ ∀ k (_ : k < l.length), PtAt w b (o + k * 2) l[k]
theorem CmAt.below {B : Nat} {w w1 : World} {b o : Nat} {c : Hp.Cm} (h : CmAt w b o c) (hb : Below B w w1) (hB : w.heap.size ≤ B) : CmAt w1 b o c := by
  have hl := Nat.lt_of_lt_of_le (cell_lt h.1) hB
  exact ⟨(hb.cell (p := ⟨b, _, none⟩) hl).trans h.1, (hb.cell (p := ⟨b, _, none⟩) hl).trans h.2.1, (hb.cell (p := ⟨b, _, none⟩) hl).trans h.2.2.1, (hb.cell (p := ⟨b, _, none⟩) hl).trans h.2.2.2⟩
theorem PtAt.below {B : Nat} {w w1 : World} {b o : Nat} {c : Hp.Pt} (h : PtAt w b o c) (hb : Below B w w1) (hB : w.heap.size ≤ B) : PtAt w1 b o c := by
  have hl := Nat.lt_of_lt_of_le (cell_lt h.1) hB
  exact ⟨(hb.cell (p := ⟨b, _, none⟩) hl).trans h.1, (hb.cell (p := ⟨b, _, none⟩) hl).trans h.2⟩
theorem HoldsC.below {B : Nat} {w w1 : World} {a : Option Addr} {l : List Hp.Cm} (h : HoldsC w a l) (hb : Below B w w1) (hB : w.heap.size ≤ B) : HoldsC w1 a l := by
  rcases h with h | ⟨b, o, rfl, hr⟩
  · exact .inl h
  · exact .inr ⟨b, o, rfl, fun k hk => (hr k hk).below hb hB⟩
theorem HoldsP.below {B : Nat} {w w1 : World} {a : Option Addr} {l : List Hp.Pt} (h : HoldsP w a l) (hb : Below B w w1) (hB : w.heap.size ≤ B) : HoldsP w1 a l := by
  rcases h with h | ⟨b, o, rfl, hr⟩
  · exact .inl h
  · exact .inr ⟨b, o, rfl, fun k hk => (hr k hk).below hb hB⟩
theorem HoldsC.alloc {w : World} {a : Option Addr} {l : List Hp.Cm} (h : HoldsC w a l) (X : Obj) : HoldsC (w.alloc X) a l := h.below ((Below.refl _ _).alloc (Nat.le_refl _) _) (Nat.le_refl _)
theorem HoldsP.alloc {w : World} {a : Option Addr} {l : List Hp.Pt} (h : HoldsP w a l) (X : Obj) : HoldsP (w.alloc X) a l := h.below ((Below.refl _ _).alloc (Nat.le_refl _) _) (Nat.le_refl _)
/-- A header's and parameters' cells. -/
def hvA (h : Hp.Hd) (s : Option Addr) (m : Nat) : Array Value := #[.int .i64 h.a, .int .i64 h.b, .int .i64 h.c, .int .i64 h.d, .int .i64 h.tw, .int .i64 h.th, .slice s h.cs.length m]
def pvA (p : Hp.Ps) (s : Option Addr) (m : Nat) (s2 : Option Addr) (m2 : Nat) : Array Value := #[.int .i64 p.kern, .int .i64 p.lev, .int .i64 p.col, .int .i64 p.bx, .int .i64 p.yb, .slice s p.prec.length m, .int .i64 p.ord, .int .i64 p.lay, .bool p.m0, .bool p.m1, .bool p.m2, .bool p.m3, .bool p.m4, .bool p.dv, .bool p.sy, .bool p.fe, .slice s2 p.steps.length m2, .int .i64 p.dead, .int .i64 p.sh]
/-- All that parameters rest on. -/
structure PIn (w : World) (p : Hp.Ps) (s : Option Addr) (s2 : Option Addr) : Prop where
  prec : HoldsP w s p.prec
  steps : HoldsI w s2 p.steps
theorem PIn.below {w w1 : World} {p : Hp.Ps} {s s2 : Option Addr} (h : PIn w p s s2) (hb : Below w.heap.size w w1) : PIn w1 p s s2 := ⟨h.prec.below hb (Nat.le_refl _), h.steps.below hb (Nat.le_refl _)⟩
theorem PIn.alloc {w : World} {p : Hp.Ps} {s s2 : Option Addr} (h : PIn w p s s2) (X : Obj) : PIn (w.alloc X) p s s2 := h.below ((Below.refl _ _).alloc (Nat.le_refl _) _)
/-- Are a header's lengths such as memory can hold? -/
def fitL {α : Type} (l : List α) : Prop := l.length ≤ 4398046511104
theorem Blk.get {w : World} {g : Nat} {t : TypeId} {cs : Array Value} (h : Blk w g t cs) (i : Nat) {v : Value} (hv : cs[i]? = some v) : w.cell? ⟨g, i, none⟩ = some v := (h.cell i).trans hv
theorem Blk.hd {w : World} {g : Nat} {t : TypeId} {h : Hp.Hd} {s : Option Addr} {m : Nat} (B : Blk w g t (hvA h s m)) : w.cell? ⟨g, 0, none⟩ = some (.int .i64 h.a) ∧ w.cell? ⟨g, 1, none⟩ = some (.int .i64 h.b) ∧ w.cell? ⟨g, 2, none⟩ = some (.int .i64 h.c) ∧ w.cell? ⟨g, 3, none⟩ = some (.int .i64 h.d) ∧ w.cell? ⟨g, 4, none⟩ = some (.int .i64 h.tw) ∧ w.cell? ⟨g, 5, none⟩ = some (.int .i64 h.th) ∧ w.cell? ⟨g, 6, none⟩ = some (.slice s h.cs.length m) :=
  ⟨B.get 0 rfl, B.get 1 rfl, B.get 2 rfl, B.get 3 rfl, B.get 4 rfl, B.get 5 rfl, B.get 6 rfl⟩
theorem Blk.ps {w : World} {g : Nat} {t : TypeId} {p : Hp.Ps} {s s2 : Option Addr} {m m2 : Nat} (B : Blk w g t (pvA p s m s2 m2)) :
    w.cell? ⟨g, 0, none⟩ = some (.int .i64 p.kern) ∧ w.cell? ⟨g, 1, none⟩ = some (.int .i64 p.lev) ∧ w.cell? ⟨g, 2, none⟩ = some (.int .i64 p.col) ∧ w.cell? ⟨g, 3, none⟩ = some (.int .i64 p.bx) ∧ w.cell? ⟨g, 4, none⟩ = some (.int .i64 p.yb) ∧ w.cell? ⟨g, 5, none⟩ = some (.slice s p.prec.length m) ∧ w.cell? ⟨g, 6, none⟩ = some (.int .i64 p.ord) ∧ w.cell? ⟨g, 7, none⟩ = some (.int .i64 p.lay) ∧ w.cell? ⟨g, 8, none⟩ = some (.bool p.m0) ∧ w.cell? ⟨g, 9, none⟩ = some (.bool p.m1) ∧ w.cell? ⟨g, 10, none⟩ = some (.bool p.m2) ∧ w.cell? ⟨g, 11, none⟩ = some (.bool p.m3) ∧ w.cell? ⟨g, 12, none⟩ = some (.bool p.m4) ∧ w.cell? ⟨g, 13, none⟩ = some (.bool p.dv) ∧ w.cell? ⟨g, 14, none⟩ = some (.bool p.sy) ∧ w.cell? ⟨g, 15, none⟩ = some (.bool p.fe) ∧ w.cell? ⟨g, 16, none⟩ = some (.slice s2 p.steps.length m2) ∧ w.cell? ⟨g, 17, none⟩ = some (.int .i64 p.dead) ∧ w.cell? ⟨g, 18, none⟩ = some (.int .i64 p.sh) :=
  ⟨B.get 0 rfl, B.get 1 rfl, B.get 2 rfl, B.get 3 rfl, B.get 4 rfl, B.get 5 rfl, B.get 6 rfl, B.get 7 rfl, B.get 8 rfl, B.get 9 rfl, B.get 10 rfl, B.get 11 rfl, B.get 12 rfl, B.get 13 rfl, B.get 14 rfl, B.get 15 rfl, B.get 16 rfl, B.get 17 rfl, B.get 18 rfl⟩
end Go.Proofs.Ytkcjbehfhcmiaaa
