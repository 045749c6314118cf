/-
  Worlds of a drawn region: families; an array of two integers that came by value.
-/
import Derived.Test.YtadkcgpkbcgeoaaOpenQ
import Derived.Test.YtadkcgpkbcgeoaaEx02
set_option maxRecDepth 100000
namespace Go.Proofs.Ytadkcgpkbcgeoaa
open Go.RowKit

structure Fam (I : World → Prop) where
  W : World
  ok : I W
theorem Fam.next {I : World → Prop} (hI : ∀ W W1, I W → Below W.heap.size W W1 → I W1) (X : Fam I) (w' : World) (hb : Below X.W.heap.size X.W w') : ∃ Y : Fam I, w' = Y.W := ⟨⟨w', hI _ _ X.ok hb⟩, rfl⟩
/-- A call that changes nothing is one that only makes memory. -/
theorem still {P : Program} {fn : FuncId} {args : Array Value} {v : Value} {W : World} (h : Calls P fn args W fun e w' => e = .returned v ∧ w' = W) :
    Calls P fn args W fun e w' => e = .returned v ∧ Below W.heap.size W w' :=
  h.mono (by rintro e w' ⟨h1, rfl⟩; exact ⟨h1, Below.refl _ _⟩)
structure Aw (w : World) (x y : Int) (W : World) : Prop where
  below : Below w.heap.size w W
  box : PBox W w.heap.size x y
theorem Aw.step {w W W1 : World} {x y : Int} (h : Aw w x y W) (hb : Below W.heap.size W W1) : Aw w x y W1 := ⟨below_call h.below hb, h.box.below hb⟩
theorem Aw.start (w : World) (x y : Int) (t : TypeId) : Aw w x y (w.alloc (.cells #[.int .i64 x, .int .i64 y] t)) := ⟨below_alloc (Below.refl _ w) _, PBox.fresh w x y t⟩
/-- A read of a family's block. -/
theorem Aw.c0 {w : World} {x y : Int} (X : Fam (Aw w x y)) : X.W.cell? ⟨w.heap.size, 0, none⟩ = some (.int .i64 x) := X.ok.box.c0
theorem Aw.c1 {w : World} {x y : Int} (X : Fam (Aw w x y)) : X.W.cell? ⟨w.heap.size, 1, none⟩ = some (.int .i64 y) := X.ok.box.c1
end Go.Proofs.Ytadkcgpkbcgeoaa
