/-
  Layer 21: contract of the reference's steps.
-/
import Derived.Test.YtkohdiajpdlkjaaBf
import Derived.Test.YtkohdiajpdlkjaaIc
set_option maxRecDepth 100000
namespace Go.Proofs.Ytkohdiajpdlkjaa
open Go.RowKit

theorem step_copy_at {P : Program} {ops : Array Oper} {o : Oper} {act : Act} {w : World} {K : Act → World → Prop} {Q : Exit → Act → World → Prop} {E : Prop} (hgd : o.guard = none) (d s : Operand) (t : TypeId)
    (ho : o.op = .call { callee := .builtin .copy, args := #[d, s], argTypes := #[t, t] }) (elem : TypeId) (hu : P.underlying t = some (.slice elem)) (hs : (P.info? elem).map (·.size) = some 4)
    (od os : Option Addr) (dLen dCap sLen sCap : Nat) (hd : act.eval d = .slice od dLen dCap) (hsv : act.eval s = .slice os sLen sCap) (g o' q : Nat) (cs : List Value) (hq : Nat.min sLen dLen = q) (hn : cs.length = q * 4)
    (hpos : 0 < q → od = some ⟨g, o', none⟩ ∧ ∃ aS, os = some aS ∧ ∀ j v, cs[j]? = some v → w.cell? (aS.add j) = some v) (hc : ∀ j, j < cs.length → (w.cell? ⟨g, o' + j, none⟩).isSome = true) (hf : ∀ j, j < cs.length → w.frozen? ⟨g, o' + j, none⟩ = false) (h1 : ∀ v ∈ cs, v.oneCell' = true)
    (h : K (act.put o.dst (goInt q)) (w.setCells g o' cs)) : if Region.wanted o (yielded ops act.tmps) = true then Oper.wp P o act w K Q else E := by
  have hw : Region.wanted o (yielded ops act.tmps) = true := by simp [Region.wanted, hgd]
  rw [if_pos hw]
  have hr : (Builtin.copy_ #[t, t] o.type #[.slice od dLen dCap, .slice os sLen sCap]).run P w = .ok (goInt q) (w.setCells g o' cs) := by
    rcases Nat.eq_zero_or_pos q with h0 | h0
    · subst h0
      obtain rfl : cs = [] := List.length_eq_zero_iff.1 (by rw [hn])
      exact run_copy_zero w t t o.type elem od os dLen dCap sLen sCap hq hu hs
    · obtain ⟨rfl, aS, rfl, hsrc⟩ := hpos h0
      exact run_copy4 w t t o.type elem g o' dLen dCap aS sLen sCap q cs hq hu hs hn hsrc hc hf h1
  unfold Oper.wp execOp
  simp only [ho, resolve, invoke, builtin, Sem.run_bind, Sem.run_pure, Result.andThen_ok, List.map_toArray, List.map_cons, List.map_nil, hd, hsv, hr]
  exact h
end Go.Proofs.Ytkohdiajpdlkjaa
