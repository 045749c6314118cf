/-
  What every statement of this seat is closed by: a call that leaves old memory as it was hands its arguments back as they read; arrays as arguments.
-/
import Derived.Test.YthmhapkeadkhbaaDoorCb
import Derived.WalkKit
import Derived.ProofKit
import Derived.OpenShut
import Derived.Lib.SmallJoins
import Derived.Deep.Slices
import Derived.Deep.Fields
import Derived.ChangeSame
set_option maxRecDepth 100000
namespace Go.Proofs.YthmhapkeadkhbaaDoor
open Go.ChangeShapes Go.WideShapes Go.ChangeAt Go.RowKit Go.Joins Go.Deep

theorem own : ownKnob Tryd.prog.godebug = none := by kernel_rfl
theorem laidOut : laidOutB Tryd.prog = true := by kernel_rfl
theorem cellsI : Tryd.prog.cellsOf 3 = 1 := by kernel_rfl
section
variable {H : Type} {enc : TypeId × Value → H} {P : Program}
/-- The row's last step, where the world below the old heap is as it was. -/
theorem post_low {f : Func} {s : ChangeSpec} {apart fresh handsOn again : Bool} {W W' : World} {args : Array Value} {v : Value} {ds gs : List (DataW H)} {before pa pv : List MemPlace}
    (hW : DataW.Whole enc P f.params.toList s.vars apart W args.toList ds gs before)
    (hres : ∀ (b : Nat) (sp : Nat → Bool) (hd : Bool), DataW.TrodAll enc P W' b sp hd f.resultTypes.toList (v.resultList f.resultTypes.size) (s.fn H (ds ++ gs)).results [])
    (hargs : ∀ sp : Nat → Bool, (∀ p ∈ before, sp p.block = true) → DataW.TrodAll enc P W' 0 sp true f.params.toList args.toList (s.fn H (ds ++ gs)).args pa)
    (hvars : ∀ sp : Nat → Bool, (∀ p ∈ before, sp p.block = true) → DataW.TrodVars enc P W' sp s.vars (s.fn H (ds ++ gs)).vars pv)
    (hps : before = pa ++ pv) (hb : Below W.heap.size W W')
    (hok : ∀ (j : Nat) (t : TypeId) (r : Value), f.resultTypes[j]? = some t → (v.resultList f.resultTypes.size)[j]? = some r → Value.okWide P W' .any 0 t r) :
    s.post enc P f apart fresh handsOn again W args v W' := by
  have hlow : ∀ p ∈ before, p.block < W.heap.size := fun p hp => hW.lt p hp
  have hsp : ∀ p ∈ before, (fun b => decide (b < W.heap.size)) p.block = true := fun p hp => decide_eq_true (hlow p hp)
  have hfr : W.keptBut W' (· ∈ before) := hb.frame (· ∈ before)
  refine ⟨ds, gs, before, [], pa, pv, hW, hres _ _ _, hargs _ hsp, hvars _ hsp, World.keptBut_mono (fun p hp => ⟨hp, ?_⟩) hfr, fun _ => ?_⟩
  · rw [hps, List.mem_append] at hp
    exact Or.inr hp
  · obtain ⟨_, _, _, _, _, hz, hn⟩ := hW
    refine ⟨hok, _, _, ([] ++ pa) ++ pv, ⟨[] ++ pa, pv, trodAll_append (hargs _ (fun _ _ => rfl)) (hres _ _ _), hvars _ (fun _ _ => rfl), rfl, fun b off hp => ?_, fun ha => ?_⟩, fun p hp _ => ?_⟩
    · have hin : MemPlace.cell b off ∈ before := by rw [hps]; simpa using hp
      rw [hb.frozen (hlow _ hin)]
      exact hz b off hin
    · have := hn ha
      rw [hps] at this
      simpa using this
    · rw [hps]
      simpa using hp
/-- An argument reads as it did. -/
theorem trod_low {t : TypeId} (hl : laidOutB P = true) (hr : P.readableRec t = true) (hrow : t < P.types.size) {W W' : World} {sp : Nat → Bool} {v : Value} {d : DataW H} {ps : List MemPlace}
    (h : DataW.Trod enc P W 0 (fun _ => true) true t v d ps) (hb : Below W.heap.size W W') (hlt : ∀ x ∈ ps, x.block < W.heap.size) (hsp : ∀ x ∈ ps, sp x.block = true) : DataW.Trod enc P W' 0 sp true t v d ps :=
  WideElems.Trod_stays hl hr hrow h (fun x hx => hb.same (hlt x hx)) hsp
end

theorem okWide_array {P : Program} {w : World} {r : Reach} {base : Nat} {t e : TypeId} {n : Nat} {v : Value} (ht : P.underlying t = some (.array n e)) (h : Value.okWide P w r base t v) : ∃ cs : Array Value, v = .agg cs ∧ cs.size = P.cellsOf t := by
  simp only [Value.okWide, ht] at h
  obtain ⟨cs, h1, h2, _⟩ := h
  exact ⟨cs, h1, h2⟩
theorem arr2 (T : Array Value) (h : T.size = 2) : ∃ v0 v1, T = #[v0, v1] := by
  obtain ⟨l⟩ := T
  match l, h with
  | [v0, v1], _ => exact ⟨v0, v1, rfl⟩
theorem arr3 (T : Array Value) (h : T.size = 3) : ∃ v0 v1 v2, T = #[v0, v1, v2] := by
  obtain ⟨l⟩ := T
  match l, h with
  | [v0, v1, v2], _ => exact ⟨v0, v1, v2, rfl⟩
theorem trodE {H : Type} {enc : TypeId × Value → H} {w : World} {t e : TypeId} {n fuel : Nat} {cs : List Value} {x : DataW H × List MemPlace}
    (ht : Tryd.prog.underlying t = some (.array n e)) (he : Tryd.prog.cellsOf e = 1) (h : DataW.trod enc Tryd.prog w 0 (fun _ => true) true fuel t cs = some x) (i : Nat) (hi : i < n) :
    ∃ m y, DataW.trod enc Tryd.prog w 0 (fun _ => true) true m e ((cs.drop i).take 1) = some y := by
  obtain ⟨xs, m, _, _, _, hl, hx⟩ := DataW.trod_array ht h
  have := hx i hi
  rw [he, Nat.mul_one, List.getElem?_eq_getElem (by omega)] at this
  exact ⟨m, _, this⟩
theorem i64_of {a : Int} (h : (Lit.int .i64 a).wf = true) : i64R a := by
  have h3 := h
  simp [Lit.wf] at h3
  try rw [show IntKind.i64.min = -9223372036854775808 by decide] at h3
  try rw [show IntKind.i64.max = 9223372036854775807 by decide] at h3
  exact h3
theorem u8_of {a : Int} (h : (Lit.int .u8 a).wf = true) : 0 ≤ a ∧ a ≤ 255 := by
  have h3 := h
  simp [Lit.wf] at h3
  rw [show IntKind.u8.min = 0 by decide, show IntKind.u8.max = 255 by decide] at h3
  exact h3
theorem open_A3 {H : Type} {enc : TypeId × Value → H} {w : World} {r : Reach} {b0 : Nat} {v : Value} {d : DataW H} {p : List MemPlace}
    (hv : Value.okWide Tryd.prog w r b0 23 v) (h : DataW.Trod enc Tryd.prog w 0 (fun _ => true) true 23 v d p) :
    ∃ x y z : Int, v = .agg #[.int .i64 x, .int .i64 y, .int .i64 z] ∧ i64R x ∧ i64R y ∧ i64R z := by
  obtain ⟨cs, rfl, hsz⟩ := okWide_array Tryd.underlying23 hv
  obtain ⟨c0, c1, c2, rfl⟩ := arr3 _ (hsz.trans (by kernel_rfl))
  obtain ⟨fuel, hf⟩ := h
  obtain ⟨m0, y0, t0⟩ := trodE Tryd.underlying23 (by kernel_rfl) hf 0 (by decide)
  obtain ⟨m1, y1, t1⟩ := trodE Tryd.underlying23 (by kernel_rfl) hf 1 (by decide)
  obtain ⟨m2, y2, t2⟩ := trodE Tryd.underlying23 (by kernel_rfl) hf 2 (by decide)
  obtain ⟨x0, e0, _, w0⟩ := DataW.trod_int Tryd.underlying3 t0
  obtain ⟨x1, e1, _, w1⟩ := DataW.trod_int Tryd.underlying3 t1
  obtain ⟨x2, e2, _, w2⟩ := DataW.trod_int Tryd.underlying3 t2
  simp [Value.cells] at e0 e1 e2
  subst e0 e1 e2
  exact ⟨x0, x1, x2, rfl, i64_of w0, i64_of w1, i64_of w2⟩
theorem open_U3 {H : Type} {enc : TypeId × Value → H} {w : World} {r : Reach} {b0 : Nat} {v : Value} {d : DataW H} {p : List MemPlace}
    (hv : Value.okWide Tryd.prog w r b0 35 v) (h : DataW.Trod enc Tryd.prog w 0 (fun _ => true) true 35 v d p) :
    ∃ x y z : Int, v = .agg #[.int .u8 x, .int .u8 y, .int .u8 z] ∧ (0 ≤ x ∧ x ≤ 255) ∧ (0 ≤ y ∧ y ≤ 255) ∧ (0 ≤ z ∧ z ≤ 255) := by
  obtain ⟨cs, rfl, hsz⟩ := okWide_array Tryd.underlying35 hv
  obtain ⟨c0, c1, c2, rfl⟩ := arr3 _ (hsz.trans (by kernel_rfl))
  obtain ⟨fuel, hf⟩ := h
  obtain ⟨m0, y0, t0⟩ := trodE Tryd.underlying35 (by kernel_rfl) hf 0 (by decide)
  obtain ⟨m1, y1, t1⟩ := trodE Tryd.underlying35 (by kernel_rfl) hf 1 (by decide)
  obtain ⟨m2, y2, t2⟩ := trodE Tryd.underlying35 (by kernel_rfl) hf 2 (by decide)
  obtain ⟨x0, e0, _, w0⟩ := DataW.trod_int Tryd.underlying5 t0
  obtain ⟨x1, e1, _, w1⟩ := DataW.trod_int Tryd.underlying5 t1
  obtain ⟨x2, e2, _, w2⟩ := DataW.trod_int Tryd.underlying5 t2
  simp [Value.cells] at e0 e1 e2
  subst e0 e1 e2
  exact ⟨x0, x1, x2, rfl, u8_of w0, u8_of w1, u8_of w2⟩
theorem open_B2 {H : Type} {enc : TypeId × Value → H} {w : World} {r : Reach} {b0 : Nat} {v : Value} {d : DataW H} {p : List MemPlace}
    (hv : Value.okWide Tryd.prog w r b0 30 v) (h : DataW.Trod enc Tryd.prog w 0 (fun _ => true) true 30 v d p) :
    ∃ x y : Bool, v = .agg #[.bool x, .bool y] := by
  obtain ⟨cs, rfl, hsz⟩ := okWide_array Tryd.underlying30 hv
  obtain ⟨c0, c1, rfl⟩ := arr2 _ (hsz.trans (by kernel_rfl))
  obtain ⟨fuel, hf⟩ := h
  obtain ⟨m0, y0, t0⟩ := trodE Tryd.underlying30 (by kernel_rfl) hf 0 (by decide)
  obtain ⟨m1, y1, t1⟩ := trodE Tryd.underlying30 (by kernel_rfl) hf 1 (by decide)
  obtain ⟨x0, e0, _⟩ := DataW.trod_bool Tryd.underlying4 t0
  obtain ⟨x1, e1, _⟩ := DataW.trod_bool Tryd.underlying4 t1
  simp [Value.cells] at e0 e1
  subst e0 e1
  exact ⟨x0, x1, rfl⟩
end Go.Proofs.YthmhapkeadkhbaaDoor
