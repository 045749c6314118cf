/-
  For all calls and flags the statement CblkNobody returns true; they read afterwards as before.
  Conditions: none beyond those of the given statement.
-/
import Derived.Test.YtdpfojenljejiaaNa
set_option maxRecDepth 100000
namespace Go.Proofs.Ytdpfojenljejiaa.cblkNobody
open Go.ChangeShapes Go.WideShapes Go.ChangeAt Go.RowKit Go.Joins Go.Deep

theorem op4 {w : World} {g : Nat} {a b c d : Int} (h : Blk w g 35 #[.int .i64 a, .int .i64 b, .int .i64 c, .int .i64 d]) : w.cell? ⟨g, 0, none⟩ = some (.int .i64 a) ∧ w.cell? ⟨g, 1, none⟩ = some (.int .i64 b) ∧ w.cell? ⟨g, 2, none⟩ = some (.int .i64 c) ∧ w.cell? ⟨g, 3, none⟩ = some (.int .i64 d) := ⟨h.cell 0, h.cell 1, h.cell 2, h.cell 3⟩
structure Nob (W : World) (o : OpV) (W' : World) : Prop where
  below : Below W.heap.size W W'
  op : Blk W' W.heap.size 35 #[.int .i64 o.k, .int .i64 o.x, .int .i64 o.y, .int .i64 o.v]
  zero : W'.cell? ⟨W.heap.size + 1, 6, none⟩ = some (.pointer none)
  l0 : W'.cell? ⟨W.heap.size + 1 + 1, 0, none⟩ = some (.pointer none)
  l1 : W'.cell? ⟨W.heap.size + 1 + 1, 1, none⟩ = some (.pointer (some ⟨W.heap.size + 1, 0, none⟩))
theorem Nob.step {W W1 W2 : World} {o : OpV} (h : Nob W o W1) (hb : Below W1.heap.size W1 W2) : Nob W o W2 :=
  ⟨below_call h.below hb, h.op.below hb, (hb.cell (p := ⟨_, _, none⟩) (cell_lt h.zero)).trans h.zero, (hb.cell (p := ⟨_, _, none⟩) (cell_lt h.l0)).trans h.l0, (hb.cell (p := ⟨_, _, none⟩) (cell_lt h.l1)).trans h.l1⟩
set_option maxHeartbeats 8000000 in
theorem walk (o : OpV) (c : Bool) (W : World) : Calls Try.prog 10 #[o.val, .bool c] W fun e w' => e = .returned (.bool true) ∧ Below W.heap.size W w' := by
  have hN : Hid (Nob W o (((W.alloc (.cells #[.int .i64 o.k, .int .i64 o.x, .int .i64 o.y, .int .i64 o.v] 35)).alloc (.cells #[.int .i64 0, .int .i64 0, .slice none 0 0, .slice none 0 0, .slice none 0 0, .slice none 0 0, .pointer none] 67)).alloc (.cells #[.pointer none, .pointer (some ⟨W.heap.size + 1, 0, none⟩)] 23))) := by
    refine ⟨below_alloc (below_alloc (below_alloc (Below.refl _ W) _) _) _, ((Blk.new W _ _).alloc _).alloc _, ?_, ?_, ?_⟩
    · have b := Blk.new (W.alloc (.cells #[.int .i64 o.k, .int .i64 o.x, .int .i64 o.y, .int .i64 o.v] 35)) 67 #[.int .i64 0, .int .i64 0, .slice none 0 0, .slice none 0 0, .slice none 0 0, .slice none 0 0, .pointer none]
      rw [show (W.alloc (.cells #[.int .i64 o.k, .int .i64 o.x, .int .i64 o.y, .int .i64 o.v] 35)).heap.size = W.heap.size + 1 by simp] at b
      exact (b.alloc _).cell 6
    · have b := Blk.new ((W.alloc (.cells #[.int .i64 o.k, .int .i64 o.x, .int .i64 o.y, .int .i64 o.v] 35)).alloc (.cells #[.int .i64 0, .int .i64 0, .slice none 0 0, .slice none 0 0, .slice none 0 0, .slice none 0 0, .pointer none] 67)) 23 #[.pointer none, .pointer (some ⟨W.heap.size + 1, 0, none⟩)]
      rw [show ((W.alloc (.cells #[.int .i64 o.k, .int .i64 o.x, .int .i64 o.y, .int .i64 o.v] 35)).alloc (.cells #[.int .i64 0, .int .i64 0, .slice none 0 0, .slice none 0 0, .slice none 0 0, .slice none 0 0, .pointer none] 67)).heap.size = W.heap.size + 1 + 1 by simp] at b
      exact b.cell 0
    · have b := Blk.new ((W.alloc (.cells #[.int .i64 o.k, .int .i64 o.x, .int .i64 o.y, .int .i64 o.v] 35)).alloc (.cells #[.int .i64 0, .int .i64 0, .slice none 0 0, .slice none 0 0, .slice none 0 0, .slice none 0 0, .pointer none] 67)) 23 #[.pointer none, .pointer (some ⟨W.heap.size + 1, 0, none⟩)]
      rw [show ((W.alloc (.cells #[.int .i64 o.k, .int .i64 o.x, .int .i64 o.y, .int .i64 o.v] 35)).alloc (.cells #[.int .i64 0, .int .i64 0, .slice none 0 0, .slice none 0 0, .slice none 0 0, .slice none 0 0, .pointer none] 67)).heap.size = W.heap.size + 1 + 1 by simp] at b
      exact b.cell 1
  unfold OpV.val
  go_enter Try.func10, Try.ntmps10
  go_wp2_with fail
  go_loopw [18] (fun i wr => ∃ k : Nat, k ≤ 2 ∧ i = .int .i64 (k : Int) ∧ Hid (Nob W o wr)) (fun i _ => 2 - (intOf i).toNat)
  case atStart => exact ⟨0, by omega, rfl, hN⟩
  case round =>
    obtain ⟨k, hk, rfl, hT⟩ := hrel
    by_cases hlt : k < 2
    · obtain ⟨p, hp, hP⟩ : ∃ p, wr.cell? ⟨W.heap.size + 1 + 1, k, none⟩ = some (.pointer p) ∧ NoB p wr := by
        obtain rfl | rfl : k = 0 ∨ k = 1 := by omega
        · exact ⟨none, hT.out.l0, noB_nil wr⟩
        · exact ⟨_, hT.out.l1, noB_zero hT.out.zero⟩
      have P0 := Lib.hid hP
      have z1 := nsize hP
      have z2 := nnb hP o.x o.y c
      have z3 := nsgs hP o.x o.y c
      have z4 := ndo hP o
      unfold OpV.val at z4
      obtain ⟨c0, c1, c2, c3⟩ := op4 hT.out.op
      have hk2 : (k : Int) < 2 := by omega
      clear hP
      go_wp2_with (first | (go_at_call 13; (with_reducible refine z1.mono ?_); rintro e wn ⟨rfl, rfl⟩) | (go_at_call 38; (with_reducible refine z2.mono ?_); rintro e wn ⟨rfl, rfl⟩) | (go_at_call 39; (with_reducible refine z3.mono ?_); rintro e wn ⟨rfl, rfl⟩))
      refine z4.mono ?_
      rintro e w5 ⟨rfl, hb⟩
      have T5 := Lib.hid (hT.out.step hb)
      have P5 := P0.out.step hb
      have y1 := nvalue P5 o.x o.y
      have y2 := nsig P5 o.x o.y
      have y3 := ntouched P5 o.x o.y
      have y4 := nrefined P5 o.x o.y
      clear hb z1 z2 z3 z4 c0 c1 c2 c3 hp P5
      obtain ⟨c0, c1, c2, c3⟩ := op4 T5.out.op
      go_wp2_with (first | (go_at_call 31; (with_reducible refine y1.mono ?_); rintro e wn ⟨rfl, rfl⟩) | (go_at_call 32; (with_reducible refine y2.mono ?_); rintro e wn ⟨rfl, rfl⟩) | (go_at_call 33; (with_reducible refine y3.mono ?_); rintro e wn ⟨rfl, rfl⟩) | (go_at_call 34; (with_reducible refine y4.mono ?_); rintro e wn ⟨rfl, rfl⟩))
      go_roundw
      case rel => exact ⟨k + 1, by omega, by go_num, T5⟩
      case measure => simp [intOf]; omega
    · obtain rfl : k = 2 := by omega
      go_wp2_with fail
      refine (ex14_c _).mono ?_
      rintro e w4 ⟨rfl, hb⟩
      have B4 := Lib.hid (below_call hT.out.below hb)
      clear hb
      go_wp2_with fail
      go_ret
      exact ⟨rfl, B4.out⟩

set_option maxRecDepth 100000 in
theorem lifted (os : Os) (started : os.Started) (H : Type) (enc : TypeId × Value → H) :
    ReturnsInHanded {} Try.checked os 10 .any (Rows.cblkNobodySpec.pre6 enc Try.prog Try.f10 Rows.cblkNobodyRow.domain false) (Rows.cblkNobodySpec.post enc Try.prog Try.f10 false true false false) := by
  refine returnsInHanded_of_change (C := Try.checked) own started (by kernel_rfl) Try.func10
    (ChangeSpec.witness6 (enc := enc) (C := Try.checked) false ⟨#[], #[.agg #[.int .i64 0, .int .i64 0, .int .i64 0, .int .i64 0], .bool false], []⟩ 8 (by kernel_rfl) (by kernel_rfl) (by kernel_rfl) (by kernel_rfl)) ?_
  intro W base args ds gs before hval0 hW _ _
  have hval : ∀ (j : Nat) t v, Try.f10.params[j]? = some t → args[j]? = some v → Value.okWide Try.prog W .any base t v := hval0
  have hW' := hW
  obtain ⟨p, q, hA0, hV, rfl, _, _⟩ := hW
  have hA : DataW.TrodAll enc Try.prog W 0 (fun _ => true) true Try.f10.params.toList args.toList ds p := hA0
  rw [Try.params10] at hA hval
  obtain ⟨v0, vs0, d0, ds0, p0, q0, hargs, rfl, rfl, h0, r0⟩ := trodAll_cons hA
  obtain ⟨v1, vs1, d1, ds1, p1, q1, rfl, rfl, rfl, h1, r1⟩ := trodAll_cons r0
  obtain ⟨rfl, rfl, rfl⟩ := trodAll_nil r1
  obtain rfl : args = #[v0, v1] := by cases args; simp_all
  obtain ⟨rfl, rfl⟩ := trodVars_none hV
  clear hA0 hval0
  simp only [List.append_nil] at hW'
  have l0 : ∀ x ∈ p0, x.block < W.heap.size := fun x hx => hW'.lt x (by simp [hx])
  have l1 : ∀ x ∈ p1, x.block < W.heap.size := fun x hx => hW'.lt x (by simp [hx])
  obtain ⟨o0, rfl⟩ := open_op (hval 0 35 v0 rfl rfl) h0
  obtain ⟨z1, rfl, _⟩ := open_bool Try.underlying4 (hval 1 4 v1 rfl rfl) h1
  refine (walk o0 z1 W).mono fun e W' ⟨he, hb⟩ => ?_
  subst he
  exact ⟨_, rfl, post_low (pa := p0 ++ (p1 ++ ([]))) (pv := []) hW' (fun _ _ _ => (trodAll_cons_mk (shut_bool Try.underlying4 _) trodAll_mk0)) (fun sp hsp => (trodAll_cons_mk (trod_low laidOut (by kernel_rfl) (of_decide_eq_true (by kernel_rfl)) h0 hb l0 (fun x hx => hsp x (by simp [hx]))) (trodAll_cons_mk (trod_low laidOut (by kernel_rfl) (of_decide_eq_true (by kernel_rfl)) h1 hb l1 (fun x hx => hsp x (by simp [hx]))) trodAll_mk0))) (fun _ _ => rfl) (by simp) hb (ok_one (by kernel_rfl) rfl (okWide_bool_mk Try.underlying4 _))⟩

theorem over : Rows.cblkNobodyRow.holds Try.pinned (OpenSpec.ofChange Rows.cblkNobodySpec) :=
  OpenClaim.holds_of_wide 10 Try.f10 rfl rfl rfl rfl rfl rfl rfl ⟨rfl, rfl, rfl, rfl, rfl⟩ rfl rfl rfl rfl rfl (by kernel_rfl) Try.func10 (by kernel_rfl)
    (of_decide_eq_true (by kernel_rfl)) (by unfold Func.isWrapper; first | (rw [if_pos (by decide +kernel)]; kernel_rfl) | (rw [if_neg (by decide +kernel)]; exact ⟨rfl, rfl⟩))
    (fun os started H enc _ => lifted os started H enc)

theorem proved : Rows.CblkNobodySaid :=
  over
#print axioms proved
end Go.Proofs.Ytdpfojenljejiaa.cblkNobody
