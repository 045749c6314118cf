/-
  append of whole lists; a part of a list, cut by two numbers.
-/
import Derived.Test.YtnfnidgabgdphaaDwE
import Derived.Laws.AppendOwnNone
set_option maxRecDepth 100000
namespace Go.Proofs.Ytnfnidgabgdphaa
open Go.RowKit

/-- append of a whole list that lies in memory, or of nothing, to a list of the call's own. -/
theorem append_holds {w : World} {ops : Array Oper} {rest : List Oper} {o : Oper} {a : Act} {Q : Exit → Act → World → Prop} (hgd : o.guard = none) (s x : Operand)
    (ho : o.op = .call { callee := .builtin .append, args := #[s, x], argTypes := #[28, 28] })
    (base : Nat) (v : Value) (out : List Int) (hs : a.eval s = v) (hown : w.ownsRow base 3 1 v out.length (out.map (Value.int .i64)))
    (sa : Option Addr) (m c : Nat) (E : List Int) (hx : a.eval x = .slice sa m c) (hm : m = E.length) (hH : HoldsI w sa E) (hnil : sa = none → c = 0) (hb : out.length + E.length ≤ 100000000) (hbase : base ≤ w.heap.size)
    (h : ∀ v' w', w'.ownsRow base 3 1 v' (out ++ E).length ((out ++ E).map (Value.int .i64)) → w.grownBy w' v.ownBlock → (v'.ownBlock = v.ownBlock ∨ v'.ownBlock = some w.heap.size) → wpList Try.prog ops Q rest (a.put o.dst v') w') :
    wpList Try.prog ops Q (o :: rest) a w := by
  obtain ⟨i0, hi, hz0, hz1, hz2⟩ := info_parts infoI
  subst hm
  cases sa with
  | none =>
    have hE : E = [] := by
      rcases hH with hH | ⟨_, _, hH, _⟩
      · exact hH
      · cases hH
    subst hE
    have hc := hnil rfl
    subst hc
    refine wpList_append_own_none hgd s x 28 ho base 3 i0 1 Try.underlying28 hi v out.length _ hs hown hx ?_
    refine h v w (by rw [List.append_nil]; exact hown) ?_ (.inl rfl)
    exact ⟨rfl, rfl, rfl, Nat.le_refl _, fun _ _ _ => rfl⟩
  | some ad =>
    refine wpList_append_own_at w hgd s x 28 ho base 3 i0 (.int .i64 0) 1 8 Try.underlying28 hi hz0 hz1 hz2 rfl (by decide) v out.length _ hs hown ad E.length c (E.map (Value.int .i64)) hx (by simp) (holdsI_list hH) (oneI _) (by unfold maxLen; omega) (by omega) hbase ?_
    intro v' w' h1 h2 _ h4
    refine h v' w' ?_ h2 h4
    rw [List.length_append, List.map_append]
    exact h1
theorem Gl.pushL {w W W2 : World} {v v' : Value} {out : List Int} (h : Gl w v out W) {o2 : List Int} (hg : W.grownBy W2 v.ownBlock) (hown : W2.ownsRow w.heap.size 3 1 v' o2.length (o2.map (Value.int .i64))) : Gl w v' o2 W2 :=
  ⟨h.below.grown hg h.below.size (fun k hk => (h.own.lt k hk).1), hown⟩
theorem G2.pushL {w W W2 : World} {v1 v2 v' : Value} {o1 o2 o3 : List Int} (h : G2 w v1 o1 v2 o2 W) (hg : W.grownBy W2 v1.ownBlock) (hown : W2.ownsRow w.heap.size 3 1 v' o3.length (o3.map (Value.int .i64))) (hat : v'.ownBlock = v1.ownBlock ∨ v'.ownBlock = some W.heap.size) : G2 w v' o3 v2 o2 W2 := by
  refine ⟨h.l1.pushL hg hown, ⟨(h.l1.pushL hg hown).below, own_heap h.l2.own fun g hgg => ?_⟩, fun g h1 h2 => ?_⟩
  · have hlt := (h.l2.own.lt g hgg).2
    exact hg.block g hlt (fun e => h.apart g e.symm hgg)
  · have hlt := (h.l2.own.lt g h2).2
    rcases hat with hat | hat
    · exact h.apart g (hat ▸ h1) h2
    · rw [hat] at h1
      have := Option.some.inj h1
      omega
theorem holds_pushL {W W0 W2 : World} {row : Option Nat} {s : Option Addr} {l : List Int} (h : HoldsI W s l) (hg : W.grownBy W2 row) (hf : Fresh W0 s) (hr : ∀ k, row = some k → k < W0.heap.size) : HoldsI W2 s l := by
  rcases h with h | ⟨b, off, rfl, h⟩
  · exact .inl h
  · by_cases hl : l = []
    · exact .inl hl
    · have hlt := cell_lt (h 0 (List.length_pos_iff.2 hl))
      refine .inr ⟨b, off, rfl, fun k hk => ?_⟩
      refine (World.cell?_of_block (w := W) (hg.block b hlt fun e => ?_)).trans (h k hk)
      have h1 := hr b e.symm
      have h2 := hf _ rfl
      simp at h2
      omega
/-- A part of a list, cut by two numbers. -/
theorem slice_row {w : World} {s : Option Addr} {l : List Int} {m : Nat} (hH : HoldsI w s l) (hs : s = none → l.length = 0 ∧ m = 0) (hm : l.length ≤ m) (p n : Nat) (hp : p + n ≤ l.length) :
    ∃ s' m', (∀ W, (Instr.slice 28 (.slice s l.length m) (some (.int .i64 (p : Int))) (some (.int .i64 ((p + n : Nat) : Int))) none).run Try.prog W = .ok (.slice s' n m') W) ∧ HoldsI w s' ((l.drop p).take n) ∧ (s' = none → n = 0 ∧ m' = 0) := by
  have hu : Try.prog.underlying 28 = some (.slice (Try.prog.elem 28)) := Try.underlying28
  have hsz : ∀ W, (sizeOf (Try.prog.elem 28)).run Try.prog W = .ok 1 W := fun W => by
    obtain ⟨i0, hi, _, hz1, _⟩ := info_parts infoI
    have he : Try.prog.elem 28 = 3 := by kernel_rfl
    rw [he]
    simp [sizeOf, typeInfo, hi, hz1]
  have hrun := fun W => run_slice_lh (P := Try.prog) (w := W) 28 s l.length m hu .i64 .i64 (p : Int) ((p + n : Nat) : Int) (by omega) (by omega) (by omega)
  by_cases he : m = p
  · refine ⟨s, 0, fun W => ?_, ?_, fun _ => ⟨by omega, rfl⟩⟩
    · rw [hrun W, hsz W]
      simp [Result.andThen, sliced, he]
      omega
    · have : n = 0 := by omega
      subst this
      exact .inl (by simp)
  · refine ⟨s.map (·.add p), m - p, fun W => ?_, ?_, fun h => ?_⟩
    · rw [hrun W, hsz W]
      simp [Result.andThen, sliced, he]
      omega
    · rcases hH with rfl | ⟨b, off, rfl, hr⟩
      · exact .inl (by simp)
      · refine .inr ⟨b, off + p, by simp [Addr.add_lit], fun k hk => ?_⟩
        have hk' : k < n ∧ p + k < l.length := by simp at hk; omega
        have := hr (p + k) hk'.2
        rw [show off + p + k = off + (p + k) by omega, this]
        simp
    · have hsn : s = none := by simpa using h
      obtain ⟨h1, h2⟩ := hs hsn
      exact ⟨by omega, by omega⟩
end Go.Proofs.Ytnfnidgabgdphaa
