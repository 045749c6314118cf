/-
  For all integers v of 32 bits and shift of 8 bits the statement QuantScales returns true. Its arguments read afterwards as before.
  Conditions: none beyond those of the given statement.
-/
import Derived.Test.YtadkcgpkbcgeoaaFrame
import Derived.Test.YtadkcgpkbcgeoaaEx08
import Derived.Test.YtadkcgpkbcgeoaaOpenQ
set_option maxRecDepth 100000
namespace Go.Proofs.Ytadkcgpkbcgeoaa.quantScales
open Go.ChangeShapes Go.WideShapes Go.ChangeAt Go.RowKit Go.Joins Go.Deep

set_option maxRecDepth 100000 in
set_option maxHeartbeats 8000000 in
theorem walk (v h : Int) (w : World) (bv : 0 ≤ v ∧ v ≤ 4294967295) (bh : 0 ≤ h ∧ h ≤ 255) : Calls Try.prog 19 #[.int .u32 v, .int .u8 h] w fun e w' => e = .returned (.bool true) ∧ Below w.heap.size w w' := by
  obtain ⟨S, hS⟩ : ∃ S, S = h % 30 + 1 := ⟨_, rfl⟩
  have e1 : h.tmod 30 = h % 30 := Int.tmod_eq_emod_of_nonneg bh.1
  have sb : 1 ≤ S ∧ S ≤ 30 := by omega
  have hu : Qu.unB 0 S = true := Qu.un_iff.2 ⟨sb.1, sb.2, by decide, by decide⟩
  obtain ⟨P, hP⟩ : ∃ P : Int, P = 2 ^ S.toNat := ⟨_, rfl⟩
  have pb : 1 ≤ P ∧ P ≤ 1073741824 := by
    have e : (1073741824 : Int) = 2 ^ 30 := by decide
    constructor
    · have := Qu.p2 S.toNat; omega
    · rw [e, hP]; exact_mod_cast Nat.pow_le_pow_right (by decide) (by omega)
  obtain ⟨X, hX⟩ : ∃ X, X = v % P := ⟨_, rfl⟩
  have xb : 0 ≤ X ∧ X < P := by rw [hX]; exact ⟨Int.emod_nonneg _ (by omega), Int.emod_lt_of_pos _ (by omega)⟩
  have e2 : v.tmod P = X := by rw [hX]; exact Int.tmod_eq_emod_of_nonneg bv.1
  obtain ⟨Z, hZ⟩ : ∃ Z, Z = X * P := ⟨_, rfl⟩
  have zb : 0 ≤ Z ∧ Z ≤ 1152921504606846976 := by
    rw [hZ]
    have a1 := Int.mul_nonneg xb.1 (show 0 ≤ P by omega)
    have a2 : X * P ≤ 1073741824 * P := Int.mul_le_mul_of_nonneg_right (by omega) (by omega)
    omega
  obtain ⟨u1, u2, u3, u4⟩ := Qu.un_big hu xb.1
  obtain ⟨u5, u6⟩ := Qu.un_small hu xb.1 (by rw [← hP]; exact xb.2)
  rw [← hP, ← hZ] at u1 u2
  rw [← hP, Int.neg_mul, ← hZ] at u3 u4
  have c1 := fun W => un_q Z 0 S W (by omega) (by omega)
  have c2 := fun W => un_q X 0 S W (by omega) (by omega)
  have c3 := fun W => un_q (-Z) 0 S W (by omega) (by omega)
  rw [u1, u2] at c1
  rw [u5, u6] at c2
  rw [u3, u4] at c3
  have hS2 : h % 30 + 1 = S := hS.symm
  have hP2 : (2 : Int) ^ S.toNat = P := hP.symm
  have hZ2 : X * P = Z := hZ.symm
  have m1 : min S.toNat 64 = S.toNat := by omega
  have w1 : IntKind.i64.wrap (h % 30) = h % 30 := i64_in' _ (by omega) (by omega)
  have w2 : IntKind.i64.wrap S = S := i64_in' _ (by omega) (by omega)
  have w3 : IntKind.i64.wrap P = P := i64_in' _ (by omega) (by omega)
  have w4 : IntKind.i64.wrap X = X := i64_in' _ (by omega) (by omega)
  have w5 : IntKind.i64.wrap Z = Z := i64_in' _ (by omega) (by omega)
  have w6 : IntKind.i64.wrap (-X) = -X := i64_in' _ (by omega) (by omega)
  have w7 : IntKind.i64.wrap (-Z) = -Z := i64_in' _ (by omega) (by omega)
  have wv : IntKind.i64.wrap v = v := i64_in' _ (by omega) (by omega)
  have wh : IntKind.i64.wrap h = h := i64_in' _ (by omega) (by omega)
  have s0 : 0 ≤ S := by omega
  have p0 : ¬ P = 0 := by omega
  have nm : -X * P = -Z := by rw [Int.neg_mul, hZ2]
  clear hS hP hZ hX u1 u2 u3 u4 u5 u6 sb pb xb zb hu bh bv
  go_enter Try.func19, Try.ntmps19
  go_wp2_with (first | (go_at_call 56; (first | (with_reducible refine (c1 _).mono ?_) | (with_reducible refine (c3 _).mono ?_) | (with_reducible refine (c2 _).mono ?_)); rintro e wn ⟨rfl, hw⟩; replace hw := hw.symm; subst hw) | (go_at_call 49; refine (example08_c _).mono ?_; rintro e w1 ⟨rfl, hb⟩))
  go_ret
  exact ⟨rfl, hb⟩

set_option maxRecDepth 100000 in
theorem lifted (os : Os) (started : os.Started) (H : Type) (enc : TypeId × Value → H) :
    ReturnsInHanded {} Try.checked os 19 .any (Rows.quantScalesSpec.pre6 enc Try.prog Try.f19 Rows.quantScalesRow.domain false) (Rows.quantScalesSpec.post enc Try.prog Try.f19 false true false false) := by
  refine returnsInHanded_of_change (C := Try.checked) own started (by kernel_rfl) Try.func19
    (ChangeSpec.witness6 (enc := enc) (C := Try.checked) false ⟨#[], #[.int .u32 0, .int .u8 0], []⟩ 8 (by kernel_rfl) (by kernel_rfl) (by kernel_rfl) (by kernel_rfl)) ?_
  intro W base args ds gs before hval0 hW _ _
  have hval : ∀ (j : Nat) t v, Try.f19.params[j]? = some t → args[j]? = some v → Value.okWide Try.prog W .any base t v := hval0
  have hW' := hW
  obtain ⟨p, q, hA0, hV, rfl, _, _⟩ := hW
  have hA : DataW.TrodAll enc Try.prog W 0 (fun _ => true) true Try.f19.params.toList args.toList ds p := hA0
  rw [Try.params19] at hA hval
  obtain ⟨v0, vs0, d0, ds0, p0, q0, hargs, rfl, rfl, h0, r0⟩ := trodAll_cons hA
  obtain ⟨v1, vs1, d1, ds1, p1, q1, rfl, rfl, rfl, h1, r1⟩ := trodAll_cons r0
  obtain ⟨rfl, rfl, rfl⟩ := trodAll_nil r1
  obtain rfl : args = #[v0, v1] := by cases args; simp_all
  obtain ⟨rfl, rfl⟩ := trodVars_none hV
  clear hA0 hval0
  simp only [List.append_nil] at hW'
  have l0 : ∀ x ∈ p0, x.block < W.heap.size := fun x hx => hW'.lt x (by simp [hx])
  have l1 : ∀ x ∈ p1, x.block < W.heap.size := fun x hx => hW'.lt x (by simp [hx])
  obtain ⟨v, rfl, _, _, w0⟩ := open_int Try.underlying68 (hval 0 68 v0 rfl rfl) h0
  have bv := bounds_u32 w0
  obtain ⟨h, rfl, _, _, w1⟩ := open_int Try.underlying5 (hval 1 5 v1 rfl rfl) h1
  have bh := bounds_u8 w1
  refine (walk v h W bv bh).mono fun e W' ⟨he, hb⟩ => ?_
  subst he
  exact ⟨_, rfl, post_low (pa := p0 ++ (p1 ++ ([]))) (pv := []) hW' (fun _ _ _ => (trodAll_cons_mk (shut_bool Try.underlying4 _) trodAll_mk0)) (fun sp hsp => (trodAll_cons_mk (trod_low laidOut (by kernel_rfl) (of_decide_eq_true (by kernel_rfl)) h0 hb l0 (fun x hx => hsp x (by simp [hx]))) (trodAll_cons_mk (trod_low laidOut (by kernel_rfl) (of_decide_eq_true (by kernel_rfl)) h1 hb l1 (fun x hx => hsp x (by simp [hx]))) trodAll_mk0))) (fun _ _ => rfl) (by simp) hb (ok_one (by kernel_rfl) rfl (okWide_bool_mk Try.underlying4 _))⟩

theorem over : Rows.quantScalesRow.holds Try.pinned (OpenSpec.ofChange Rows.quantScalesSpec) :=
  OpenClaim.holds_of_wide 19 Try.f19 rfl rfl rfl rfl rfl rfl rfl ⟨rfl, rfl, rfl, rfl, rfl⟩ rfl rfl rfl rfl rfl (by kernel_rfl) Try.func19 (by kernel_rfl)
    (of_decide_eq_true (by kernel_rfl)) (by unfold Func.isWrapper; first | (rw [if_pos (by decide +kernel)]; kernel_rfl) | (rw [if_neg (by decide +kernel)]; exact ⟨rfl, rfl⟩))
    (fun os started H enc _ => lifted os started H enc)

theorem proved : Rows.QuantScalesSaid :=
  over
#print axioms proved
end Go.Proofs.Ytadkcgpkbcgeoaa.quantScales
