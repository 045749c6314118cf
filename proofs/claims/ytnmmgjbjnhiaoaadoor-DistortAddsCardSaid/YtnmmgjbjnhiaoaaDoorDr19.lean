/-
  Layer 19, for DistortAdds: the block of three lists as an argument, with its slices' room; a byte.
-/
import Derived.Test.YtnmmgjbjnhiaoaaDoorDo19
import Derived.Test.YtnmmgjbjnhiaoaaDoorDq19
set_option maxRecDepth 100000
namespace Go.Proofs.YtnmmgjbjnhiaoaaDoor
open Go.ChangeShapes Go.WideShapes Go.ChangeAt Go.RowKit Go.Joins Go.Deep

/-- A block as an argument, with the slices' room. -/
structure B3C (w : World) (v : Value) (A B C : List Int) (sa sb sc : Option Addr) (ma mb mc : Nat) : Prop where
  val : v = .agg #[.slice sa A.length ma, .slice sb B.length mb, .slice sc C.length mc]
  a : HoldsI w sa A
  b : HoldsI w sb B
  c : HoldsI w sc C
  rb : ∀ x ∈ B, i64R x
  ca : A.length ≤ ma
  cb : B.length ≤ mb
  cc : C.length ≤ mc
theorem open_B3c {H : Type} {enc : TypeId × Value → H} {w : World} {r : Reach} {b0 : Nat} {v : Value} {d : DataW H} {p : List MemPlace}
    (hv : Value.okWide Tryd.prog w r b0 30 v) (h : DataW.Trod enc Tryd.prog w 0 (fun _ => true) true 30 v d p) : ∃ A B C sa sb sc ma mb mc, B3C w v A B C sa sb sc ma mb mc := by
  obtain ⟨cs, rfl, hsz⟩ := okWide_struct Tryd.underlying30 hv
  obtain ⟨c0, c1, c2, rfl⟩ := arr3' _ (hsz.trans (by kernel_rfl))
  obtain ⟨fuel, hf⟩ := h
  obtain ⟨xs, n, _, _, _, hl, hg⟩ := DataW.trod_struct Tryd.underlying30 hf
  have hx : ∀ j, j < 3 → ∃ y, xs[j]? = some y := fun j hj => ⟨_, List.getElem?_eq_getElem (by rw [hl]; exact hj)⟩
  obtain ⟨y0, e0⟩ := hx 0 (by decide)
  obtain ⟨y1, e1⟩ := hx 1 (by decide)
  obtain ⟨y2, e2⟩ := hx 2 (by decide)
  have t0 : DataW.trod enc Tryd.prog w 0 (fun _ => true) true n 28 [c0] = some y0 := (hg 0 _ rfl).trans e0
  have t1 : DataW.trod enc Tryd.prog w 0 (fun _ => true) true n 28 [c1] = some y1 := (hg 1 _ rfl).trans e1
  have t2 : DataW.trod enc Tryd.prog w 0 (fun _ => true) true n 28 [c2] = some y2 := (hg 2 _ rfl).trans e2
  obtain ⟨s0, l0, k0, f0, q0, _, r0, _⟩ := open_intsF t0
  obtain ⟨s1, l1, k1, f1, q1, z1, r1, _⟩ := open_intsF t1
  obtain ⟨s2, l2, k2, f2, q2, _, r2, _⟩ := open_intsF t2
  subst f0 f1 f2
  exact ⟨l0, l1, l2, s0, s1, s2, k0, k1, k2, ⟨rfl, q0, q1, q2, z1, r0, r1, r2⟩⟩
theorem u8_of {a : Int} (h : (Lit.int .u8 a).wf = true) : 0 ≤ a ∧ a ≤ 255 := by
  have h3 := h
  simp [Lit.wf] at h3
  try rw [show IntKind.u8.min = 0 by decide] at h3
  try rw [show IntKind.u8.max = 255 by decide] at h3
  exact h3
theorem holdsI_adr {w : World} {s : Option Addr} {l : List Int} (h : HoldsI w s l) (hl : 0 < l.length) : ∃ b o, s = some ⟨b, o, none⟩ := by
  rcases h with h | ⟨b, o, e, _⟩
  · rw [h] at hl; simp at hl
  · exact ⟨b, o, e⟩
end Go.Proofs.YtnmmgjbjnhiaoaaDoor
