/-
  For all arguments the statement TagtreeNobody returns true; they read afterwards as before.
  Conditions: none beyond those of the given statement.
-/
import Derived.Test.YtlhncjdghpggiaaTn
set_option maxRecDepth 100000
namespace Go.Proofs.Ytlhncjdghpggiaa.tagtreeNobody
open Go.ChangeShapes Go.WideShapes Go.ChangeAt Go.RowKit Go.Joins Go.Deep

set_option maxHeartbeats 8000000 in
theorem walk (x y n : Int) (z : Bool) (W : World) : Calls Try.prog 17 #[.int .i64 x, .int .i64 y, .int .i64 n, .bool z] W fun e w' => e = .returned (.bool true) ∧ Below W.heap.size W w' := by
  cases z with
  | false =>
    have N0 := Lib.hid (noT_nil W)
    have B0 := Lib.hid (Below.refl W.heap.size W)
    go_enter Try.func17, Try.ntmps17
    go_wp2_with fail
    refine (new_c _).mono ?_
    rintro e w1 ⟨a, rfl, hW, hb⟩
    have B1 := Lib.hid (below_call B0.out hb)
    have N1 := Lib.hid (N0.out.step hb)
    have W1 := Lib.hid (hW.low (B0.out.size))
    have hA := below_alloc (Below.refl _ w1) (.cells #[.int .u8 255] 5)
    have hh : HoldsB (w1.alloc (.cells #[.int .u8 255] 5)) (some ⟨w1.heap.size, 0, none⟩) [255] := holdsB_nw w1 [255]
    have rn := rnew_c (w1.alloc (.cells #[.int .u8 255] 5)) [255] (some ⟨w1.heap.size, 0, none⟩) 1 hh (fun e => by simp at e) (by simp)
    simp only [List.length_cons, List.length_nil, Nat.zero_add] at rn
    have B2 := Lib.hid (below_call B1.out hA)
    have N2 := Lib.hid (N1.out.step hA)
    have W2 := Lib.hid (W1.out.below hA)
    clear hW hb hA hh N0 B0 B1 N1 W1
    go_wp2_with fail
    refine rn.mono ?_
    rintro e w3 ⟨r, rfl, _, hb⟩
    have B3 := Lib.hid (below_call B2.out hb)
    have N3 := Lib.hid (N2.out.step hb)
    have W3 := Lib.hid (W2.out.below hb)
    have nv := nvalT N3.out x y
    have nd := ndecT N3.out (some ⟨r, 0, none⟩) x y n
    clear hb rn B2 N2 W2
    go_wp2_with (first | (go_at_call 47; (with_reducible refine nv.mono ?_); rintro e wn ⟨rfl, rfl⟩))
    refine nd.mono ?_
    rintro e w4 ⟨rfl, hb⟩
    have B4 := Lib.hid (below_call B3.out hb)
    have N4 := Lib.hid (N3.out.step hb)
    have W4 := Lib.hid (W3.out.below hb)
    have ns := nsetT N4.out x y n
    have ne := nencT N4.out (some ⟨a, 0, none⟩) x y n
    clear hb nv nd B3 N3 W3
    go_wp2_with (first | (go_at_call 43; (with_reducible refine ns.mono ?_); rintro e wn ⟨rfl, rfl⟩))
    refine ne.mono ?_
    rintro e w5 ⟨rfl, hb⟩
    have B5 := Lib.hid (below_call B4.out hb)
    have N5 := Lib.hid (N4.out.step hb)
    have W5 := Lib.hid (W4.out.below hb)
    have nl := len_c _ _ _ _ W5.out
    have nc := ncloneT N5.out
    simp only [List.length_nil] at nl
    clear hb ns ne B4 N4 W4
    go_wp2_with (first | (go_at_call 24; (refine nl.mono ?_); rintro e wn ⟨rfl, rfl⟩) | (go_at_call 52; (with_reducible refine nc.mono ?_); rintro e wn ⟨rfl, rfl⟩))
    refine (ex10_c _).mono ?_
    rintro e wz ⟨rfl, hb⟩
    have BZ := Lib.hid (below_call B5.out hb)
    clear hb
    go_wp2_with fail
    go_ret
    exact ⟨rfl, BZ.out⟩
  | true =>
    have hA := below_alloc (Below.refl _ W) (.cells #[.pointer none, .slice none 0 0, .int .i64 0] 87)
    have hc : (W.alloc (.cells #[.pointer none, .slice none 0 0, .int .i64 0] 87)).cell? ⟨W.heap.size, 0, none⟩ = some (.pointer none) := (Blk.new W 87 #[.pointer none, .slice none 0 0, .int .i64 0]).cell 0
    have N0 := Lib.hid (noT_zero hc)
    have B0 := Lib.hid hA
    clear hA hc
    go_enter Try.func17, Try.ntmps17
    go_wp2_with fail
    refine (new_c _).mono ?_
    rintro e w1 ⟨a, rfl, hW, hb⟩
    have B1 := Lib.hid (below_call B0.out hb)
    have N1 := Lib.hid (N0.out.step hb)
    have W1 := Lib.hid (hW.low (B0.out.size))
    have hA := below_alloc (Below.refl _ w1) (.cells #[.int .u8 255] 5)
    have hh : HoldsB (w1.alloc (.cells #[.int .u8 255] 5)) (some ⟨w1.heap.size, 0, none⟩) [255] := holdsB_nw w1 [255]
    have rn := rnew_c (w1.alloc (.cells #[.int .u8 255] 5)) [255] (some ⟨w1.heap.size, 0, none⟩) 1 hh (fun e => by simp at e) (by simp)
    simp only [List.length_cons, List.length_nil, Nat.zero_add] at rn
    have B2 := Lib.hid (below_call B1.out hA)
    have N2 := Lib.hid (N1.out.step hA)
    have W2 := Lib.hid (W1.out.below hA)
    clear hW hb hA hh N0 B0 B1 N1 W1
    go_wp2_with fail
    refine rn.mono ?_
    rintro e w3 ⟨r, rfl, _, hb⟩
    have B3 := Lib.hid (below_call B2.out hb)
    have N3 := Lib.hid (N2.out.step hb)
    have W3 := Lib.hid (W2.out.below hb)
    have nv := nvalT N3.out x y
    have nd := ndecT N3.out (some ⟨r, 0, none⟩) x y n
    clear hb rn B2 N2 W2
    go_wp2_with (first | (go_at_call 47; (with_reducible refine nv.mono ?_); rintro e wn ⟨rfl, rfl⟩))
    refine nd.mono ?_
    rintro e w4 ⟨rfl, hb⟩
    have B4 := Lib.hid (below_call B3.out hb)
    have N4 := Lib.hid (N3.out.step hb)
    have W4 := Lib.hid (W3.out.below hb)
    have ns := nsetT N4.out x y n
    have ne := nencT N4.out (some ⟨a, 0, none⟩) x y n
    clear hb nv nd B3 N3 W3
    go_wp2_with (first | (go_at_call 43; (with_reducible refine ns.mono ?_); rintro e wn ⟨rfl, rfl⟩))
    refine ne.mono ?_
    rintro e w5 ⟨rfl, hb⟩
    have B5 := Lib.hid (below_call B4.out hb)
    have N5 := Lib.hid (N4.out.step hb)
    have W5 := Lib.hid (W4.out.below hb)
    have nl := len_c _ _ _ _ W5.out
    have nc := ncloneT N5.out
    simp only [List.length_nil] at nl
    clear hb ns ne B4 N4 W4
    go_wp2_with (first | (go_at_call 24; (refine nl.mono ?_); rintro e wn ⟨rfl, rfl⟩) | (go_at_call 52; (with_reducible refine nc.mono ?_); rintro e wn ⟨rfl, rfl⟩))
    refine (ex10_c _).mono ?_
    rintro e wz ⟨rfl, hb⟩
    have BZ := Lib.hid (below_call B5.out hb)
    clear hb
    go_wp2_with fail
    go_ret
    exact ⟨rfl, BZ.out⟩

set_option maxRecDepth 100000 in
theorem lifted (os : Os) (started : os.Started) (H : Type) (enc : TypeId × Value → H) :
    ReturnsInHanded {} Try.checked os 17 .any (Rows.tagtreeNobodySpec.pre6 enc Try.prog Try.f17 Rows.tagtreeNobodyRow.domain false) (Rows.tagtreeNobodySpec.post enc Try.prog Try.f17 false true false false) := by
  refine returnsInHanded_of_change (C := Try.checked) own started (by kernel_rfl) Try.func17
    (ChangeSpec.witness6 (enc := enc) (C := Try.checked) false ⟨#[], #[.int .i64 0, .int .i64 0, .int .i64 0, .bool false], []⟩ 8 (by kernel_rfl) (by kernel_rfl) (by kernel_rfl) (by kernel_rfl)) ?_
  intro W base args ds gs before hval0 hW _ _
  have hval : ∀ (j : Nat) t v, Try.f17.params[j]? = some t → args[j]? = some v → Value.okWide Try.prog W .any base t v := hval0
  have hW' := hW
  obtain ⟨p, q, hA0, hV, rfl, _, _⟩ := hW
  have hA : DataW.TrodAll enc Try.prog W 0 (fun _ => true) true Try.f17.params.toList args.toList ds p := hA0
  rw [Try.params17] at hA hval
  obtain ⟨v0, vs0, d0, ds0, p0, q0, hargs, rfl, rfl, h0, r0⟩ := trodAll_cons hA
  obtain ⟨v1, vs1, d1, ds1, p1, q1, rfl, rfl, rfl, h1, r1⟩ := trodAll_cons r0
  obtain ⟨v2, vs2, d2, ds2, p2, q2, rfl, rfl, rfl, h2, r2⟩ := trodAll_cons r1
  obtain ⟨v3, vs3, d3, ds3, p3, q3, rfl, rfl, rfl, h3, r3⟩ := trodAll_cons r2
  obtain ⟨rfl, rfl, rfl⟩ := trodAll_nil r3
  obtain rfl : args = #[v0, v1, v2, v3] := by cases args; simp_all
  obtain ⟨rfl, rfl⟩ := trodVars_none hV
  clear hA0 hval0
  simp only [List.append_nil] at hW'
  have l0 : ∀ x ∈ p0, x.block < W.heap.size := fun x hx => hW'.lt x (by simp [hx])
  have l1 : ∀ x ∈ p1, x.block < W.heap.size := fun x hx => hW'.lt x (by simp [hx])
  have l2 : ∀ x ∈ p2, x.block < W.heap.size := fun x hx => hW'.lt x (by simp [hx])
  have l3 : ∀ x ∈ p3, x.block < W.heap.size := fun x hx => hW'.lt x (by simp [hx])
  obtain ⟨i0, rfl, _, _, wi0⟩ := open_int Try.underlying3 (hval 0 3 v0 rfl rfl) h0
  obtain ⟨i1, rfl, _, _, wi1⟩ := open_int Try.underlying3 (hval 1 3 v1 rfl rfl) h1
  obtain ⟨i2, rfl, _, _, wi2⟩ := open_int Try.underlying3 (hval 2 3 v2 rfl rfl) h2
  obtain ⟨z3, rfl, _⟩ := open_bool Try.underlying4 (hval 3 4 v3 rfl rfl) h3
  refine (walk i0 i1 i2 z3 W).mono fun e W' ⟨he, hb⟩ => ?_
  subst he
  exact ⟨_, rfl, post_low (pa := p0 ++ (p1 ++ (p2 ++ (p3 ++ ([]))))) (pv := []) hW' (fun _ _ _ => (trodAll_cons_mk (shut_bool Try.underlying4 _) trodAll_mk0)) (fun sp hsp => (trodAll_cons_mk (trod_low laidOut (by kernel_rfl) (of_decide_eq_true (by kernel_rfl)) h0 hb l0 (fun x hx => hsp x (by simp [hx]))) (trodAll_cons_mk (trod_low laidOut (by kernel_rfl) (of_decide_eq_true (by kernel_rfl)) h1 hb l1 (fun x hx => hsp x (by simp [hx]))) (trodAll_cons_mk (trod_low laidOut (by kernel_rfl) (of_decide_eq_true (by kernel_rfl)) h2 hb l2 (fun x hx => hsp x (by simp [hx]))) (trodAll_cons_mk (trod_low laidOut (by kernel_rfl) (of_decide_eq_true (by kernel_rfl)) h3 hb l3 (fun x hx => hsp x (by simp [hx]))) trodAll_mk0))))) (fun _ _ => rfl) (by simp) hb (ok_one (by kernel_rfl) rfl (okWide_bool_mk Try.underlying4 _))⟩

theorem over : Rows.tagtreeNobodyRow.holds Try.pinned (OpenSpec.ofChange Rows.tagtreeNobodySpec) :=
  OpenClaim.holds_of_wide 17 Try.f17 rfl rfl rfl rfl rfl rfl rfl ⟨rfl, rfl, rfl, rfl, rfl⟩ rfl rfl rfl rfl rfl (by kernel_rfl) Try.func17 (by kernel_rfl)
    (of_decide_eq_true (by kernel_rfl)) (by unfold Func.isWrapper; first | (rw [if_pos (by decide +kernel)]; kernel_rfl) | (rw [if_neg (by decide +kernel)]; exact ⟨rfl, rfl⟩))
    (fun os started H enc _ => lifted os started H enc)

theorem proved : Rows.TagtreeNobodySaid :=
  over
#print axioms proved
end Go.Proofs.Ytlhncjdghpggiaa.tagtreeNobody
