/-
  Layer 14: a call on the code's block and on the reference's.
-/
import Derived.Test.YtdpfojenljejiaaFa
import Derived.Test.YtdpfojenljejiaaEa
import Derived.Test.YtdpfojenljejiaaRc
import Derived.Test.YtdpfojenljejiaaRd
set_option maxRecDepth 100000
namespace Go.Proofs.Ytdpfojenljejiaa
open Go.RowKit

def doQ (w h : Nat) (q : St) (o : OpV) : St := if o.k = 0 then setQ w h q o.x o.y o.v else if o.k = 1 then markQ w h q o.x o.y else if o.k = 2 then touchQ w h q o.x o.y true else if o.k = 3 then touchQ w h q o.x o.y false else refineQ w h q o.x o.y
def doE (w h : Nat) (o : OpV) : Int := if o.k = 0 then setE w h o.x o.y o.v else atE w h o.x o.y
section
variable {W W' : World} {B A V S T R A2 C w h : Nat} {q q' : St}
theorem two_ne (H : Cb W B A V S T R w h q) (G : Rb W B A2 C w h q') : A2 ∉ [V, S, T, R] ∧ C ∉ [V, S, T, R] ∧ C ≠ A ∧ C ≠ V ∧ C ≠ S ∧ C ≠ T ∧ C ≠ R := by
  obtain ⟨cs, g1, _⟩ := G.grid
  have a1 : V ≠ A2 := H.gv.neb G.obj (by decide)
  have a2 : S ≠ A2 := H.gs.neb G.obj (by decide)
  have a3 : T ≠ A2 := H.gt.neb G.obj (by decide)
  have a4 : R ≠ A2 := H.gr.neb G.obj (by decide)
  have c1 : V ≠ C := H.gv.neb g1 (by decide)
  have c2 : S ≠ C := H.gs.neb g1 (by decide)
  have c3 : T ≠ C := H.gt.neb g1 (by decide)
  have c4 : R ≠ C := H.gr.neb g1 (by decide)
  have c5 : A ≠ C := H.obj.ne g1 (by decide)
  refine ⟨?_, ?_, c5.symm, c1.symm, c2.symm, c3.symm, c4.symm⟩
  · simp; exact ⟨a1.symm, a2.symm, a3.symm, a4.symm⟩
  · simp; exact ⟨c1.symm, c2.symm, c3.symm, c4.symm⟩
theorem do_c (H : Cb W B A V S T R w h q) (o : OpV) : Calls Try.prog 15 #[.pointer (some ⟨A, 0, none⟩), o.val] W (CGives B A V S T R w h (doQ w h q o) (doE w h o) W) := by
  have hA := below_alloc (Below.refl _ W) (.cells #[.int .i64 o.k, .int .i64 o.x, .int .i64 o.y, .int .i64 o.v] 35)
  have H1 := H.below hA
  have K1 := Lib.hid (Kb.of_below [V, S, T, R] hA)
  have s0 := set_c H1 o.x o.y o.v
  have s1 := mark_c H1 o.x o.y
  have s2 := touch_c H1 o.x o.y true
  have s3 := touch_c H1 o.x o.y false
  have s4 := refine_c H1 o.x o.y
  obtain ⟨k, x, y, v⟩ := o
  unfold OpV.val doQ doE
  dsimp only at *
  clear H H1 hA
  by_cases h0 : k = 0
  · subst h0
    rw [if_pos rfl, if_pos rfl]
    go_enter Try.func15, Try.ntmps15
    go_wp2_with fail
    refine s0.mono ?_
    rintro e w1 ⟨rfl, hC, hK⟩
    have C1 := Lib.hid hC
    have K2 := Lib.hid (K1.out.trans hK)
    clear hC hK s0 s1 s2 s3 s4
    go_wp2_with fail
    go_ret
    exact ⟨rfl, C1.out, K2.out⟩
  have e0 : (k == 0) = false := by simpa using h0
  rw [if_neg h0, if_neg h0]
  clear h0
  by_cases h1 : k = 1
  · subst h1
    rw [if_pos rfl]
    go_enter Try.func15, Try.ntmps15
    go_wp2_with fail
    refine s1.mono ?_
    rintro e w1 ⟨rfl, hC, hK⟩
    have C1 := Lib.hid hC
    have K2 := Lib.hid (K1.out.trans hK)
    clear hC hK s0 s1 s2 s3 s4
    go_wp2_with fail
    go_ret
    exact ⟨rfl, C1.out, K2.out⟩
  have e1 : (k == 1) = false := by simpa using h1
  rw [if_neg h1]
  clear h1
  by_cases h2 : k = 2
  · subst h2
    rw [if_pos rfl]
    go_enter Try.func15, Try.ntmps15
    go_wp2_with fail
    refine s2.mono ?_
    rintro e w1 ⟨rfl, hC, hK⟩
    have C1 := Lib.hid hC
    have K2 := Lib.hid (K1.out.trans hK)
    clear hC hK s0 s1 s2 s3 s4
    go_wp2_with fail
    go_ret
    exact ⟨rfl, C1.out, K2.out⟩
  have e2 : (k == 2) = false := by simpa using h2
  rw [if_neg h2]
  clear h2
  by_cases h3 : k = 3
  · subst h3
    rw [if_pos rfl]
    go_enter Try.func15, Try.ntmps15
    go_wp2_with fail
    refine s3.mono ?_
    rintro e w1 ⟨rfl, hC, hK⟩
    have C1 := Lib.hid hC
    have K2 := Lib.hid (K1.out.trans hK)
    clear hC hK s0 s1 s2 s3 s4
    go_wp2_with fail
    go_ret
    exact ⟨rfl, C1.out, K2.out⟩
  have e3 : (k == 3) = false := by simpa using h3
  rw [if_neg h3]
  clear h3
  go_enter Try.func15, Try.ntmps15
  go_wp2_with fail
  refine s4.mono ?_
  rintro e w1 ⟨rfl, hC, hK⟩
  have C1 := Lib.hid hC
  have K2 := Lib.hid (K1.out.trans hK)
  clear hC hK s0 s1 s2 s3 s4
  go_wp2_with fail
  go_ret
  exact ⟨rfl, C1.out, K2.out⟩
theorem want_c (H : Rb W B A C w h q) (o : OpV) : Calls Try.prog 16 #[.pointer (some ⟨A, 0, none⟩), o.val] W (RGives B A C w h (doQ w h q o) (doE w h o) W) := by
  have hA := below_alloc (Below.refl _ W) (.cells #[.int .i64 o.k, .int .i64 o.x, .int .i64 o.y, .int .i64 o.v] 35)
  have H1 := H.below hA
  have K1 := Lib.hid (Kb.of_below [C] hA)
  have s0 := rset_c H1 o.x o.y o.v
  have s1 := rmark_c H1 o.x o.y
  have s2 := rtouch_c H1 o.x o.y true
  have s3 := rtouch_c H1 o.x o.y false
  have s4 := rrefine_c H1 o.x o.y
  obtain ⟨k, x, y, v⟩ := o
  unfold OpV.val doQ doE
  dsimp only at *
  clear H H1 hA
  by_cases h0 : k = 0
  · subst h0
    rw [if_pos rfl, if_pos rfl]
    go_enter Try.func16, Try.ntmps16
    go_wp2_with fail
    refine s0.mono ?_
    rintro e w1 ⟨rfl, hC, hK⟩
    have C1 := Lib.hid hC
    have K2 := Lib.hid (K1.out.trans hK)
    clear hC hK s0 s1 s2 s3 s4
    go_wp2_with fail
    go_ret
    exact ⟨rfl, C1.out, K2.out⟩
  have e0 : (k == 0) = false := by simpa using h0
  rw [if_neg h0, if_neg h0]
  clear h0
  by_cases h1 : k = 1
  · subst h1
    rw [if_pos rfl]
    go_enter Try.func16, Try.ntmps16
    go_wp2_with fail
    refine s1.mono ?_
    rintro e w1 ⟨rfl, hC, hK⟩
    have C1 := Lib.hid hC
    have K2 := Lib.hid (K1.out.trans hK)
    clear hC hK s0 s1 s2 s3 s4
    go_wp2_with fail
    go_ret
    exact ⟨rfl, C1.out, K2.out⟩
  have e1 : (k == 1) = false := by simpa using h1
  rw [if_neg h1]
  clear h1
  by_cases h2 : k = 2
  · subst h2
    rw [if_pos rfl]
    go_enter Try.func16, Try.ntmps16
    go_wp2_with fail
    refine s2.mono ?_
    rintro e w1 ⟨rfl, hC, hK⟩
    have C1 := Lib.hid hC
    have K2 := Lib.hid (K1.out.trans hK)
    clear hC hK s0 s1 s2 s3 s4
    go_wp2_with fail
    go_ret
    exact ⟨rfl, C1.out, K2.out⟩
  have e2 : (k == 2) = false := by simpa using h2
  rw [if_neg h2]
  clear h2
  by_cases h3 : k = 3
  · subst h3
    rw [if_pos rfl]
    go_enter Try.func16, Try.ntmps16
    go_wp2_with fail
    refine s3.mono ?_
    rintro e w1 ⟨rfl, hC, hK⟩
    have C1 := Lib.hid hC
    have K2 := Lib.hid (K1.out.trans hK)
    clear hC hK s0 s1 s2 s3 s4
    go_wp2_with fail
    go_ret
    exact ⟨rfl, C1.out, K2.out⟩
  have e3 : (k == 3) = false := by simpa using h3
  rw [if_neg h3]
  clear h3
  go_enter Try.func16, Try.ntmps16
  go_wp2_with fail
  refine s4.mono ?_
  rintro e w1 ⟨rfl, hC, hK⟩
  have C1 := Lib.hid hC
  have K2 := Lib.hid (K1.out.trans hK)
  clear hC hK s0 s1 s2 s3 s4
  go_wp2_with fail
  go_ret
  exact ⟨rfl, C1.out, K2.out⟩
theorem Rb.lower {B' : Nat} (G : Rb W B A C w h q) (hB : B' ≤ B) : Rb W B' A C w h q := ⟨G.fit, Nat.le_trans hB G.geA, Nat.le_trans hB G.geC, G.obj, G.grid, G.out⟩
/-- A call on the code's block, beside the reference's. -/
theorem do2_c (H : Cb W B A V S T R w h q) (G : Rb W B A2 C w h q') (o : OpV) (hB : B ≤ W.heap.size) : Calls Try.prog 15 #[.pointer (some ⟨A, 0, none⟩), o.val] W fun e w' => e = .returned (.int .i64 (doE w h o)) ∧ Cb w' B A V S T R w h (doQ w h q o) ∧ Rb w' B A2 C w h q' ∧ Below B W w' := by
  refine (do_c H o).mono ?_
  rintro e w' hg
  obtain ⟨n1, n2, _⟩ := two_ne H G
  obtain ⟨h1, h2, h3⟩ := CGives.run hB hg
  exact ⟨h1, h2, G.kb hg.2.2 n1 n2, h3⟩
theorem want2_c (H : Cb W B A V S T R w h q') (G : Rb W B A2 C w h q) (o : OpV) (hB : B ≤ W.heap.size) : Calls Try.prog 16 #[.pointer (some ⟨A2, 0, none⟩), o.val] W fun e w' => e = .returned (.int .i64 (doE w h o)) ∧ Cb w' B A V S T R w h q' ∧ Rb w' B A2 C w h (doQ w h q o) ∧ Below B W w' := by
  refine (want_c G o).mono ?_
  rintro e w' ⟨h1, h2, h3⟩
  obtain ⟨_, _, n1, n2, n3, n4, n5⟩ := two_ne H G
  have f : ∀ k, C ≠ k → k ∉ [C] := fun k hk hm => hk (List.mem_singleton.1 hm).symm
  exact ⟨h1, H.kb h3 (f _ n1) (f _ n2) (f _ n3) (f _ n4) (f _ n5), h2, h3.below (fun k hk => by simp at hk; subst hk; exact G.geC) hB⟩
end
end Go.Proofs.Ytdpfojenljejiaa
