/-
  A region that draws its order, walked once in the order of the text, where each call only makes memory: the class of worlds is a family, and a call leaves a world of the family. Plain laws over the model; no program in sight.
-/
import Derived.Test.YtkcjbehfhcmiaaaBox
import Derived.Deep.QuietTactic
import Derived.BigQuiet
set_option maxRecDepth 100000
namespace Go.Proofs.Ytkcjbehfhcmiaaa
open Go.RowKit

theorem wp_region_in {P : Program} {id : Nat} {Q : Exit → Act → World → Prop} {a : Act} {w : World} {l : List Oper} {K : Type} (f : K → World) (hm : P.follows .mixedOrders = true) (hB : Region.lexB .any l.toArray = true)
    (hC : ∃ n, w.drew = f n) (h : wpQuiet P l.toArray (fun w' => ∃ n, w' = f n) (fun a' => ∀ w', (∃ n, w' = f n) → Q .normal a' w') l a) : (Code.region id l.toArray true).wp P Q a w :=
  wp_region_quiet (C := fun w' => ∃ n, w' = f n) hm hB hC (by simpa using h)
/-- A call of a function that only makes memory, in a world of the family. -/
theorem call_in {P : Program} {K : Type} {f : K → World} {n : K} {fn : FuncId} {args : Array Value} {v : Value}
    (h : Calls P fn args (f n) fun e w' => e = .returned v ∧ Below (f n).heap.size (f n) w') (hst : ∀ w', Below (f n).heap.size (f n) w' → ∃ m, w' = f m) :
    Calls P fn args (f n) fun e w'' => e = .returned v ∧ ∃ m, w'' = f m :=
  h.mono fun _ _ ⟨he, hb⟩ => ⟨he, hst _ hb⟩
end Go.Proofs.Ytkcjbehfhcmiaaa
