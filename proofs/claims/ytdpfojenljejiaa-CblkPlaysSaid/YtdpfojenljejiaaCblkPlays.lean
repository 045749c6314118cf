/-
  For all sizes and lists of calls the statement CblkPlays returns true; they read afterwards as before.
  Conditions: none beyond those of the given statement.
-/
import Derived.Test.YtdpfojenljejiaaGb
import Derived.Test.YtdpfojenljejiaaGc
set_option maxRecDepth 100000
namespace Go.Proofs.Ytdpfojenljejiaa.cblkPlays
open Go.ChangeShapes Go.WideShapes Go.ChangeAt Go.RowKit Go.Joins Go.Deep

theorem size_n (W : World) : Calls Try.prog 13 #[.pointer none] W fun e w' => e = .returned (.tuple #[.int .i64 0, .int .i64 0]) ∧ W = w' := by
  have m := made_n W
  go_enter Try.func13, Try.ntmps13
  go_wp2_with (first | (go_at_call 42; (with_reducible refine m.mono ?_); rintro e wn ⟨rfl, rfl⟩))
  go_ret2
  exact ⟨rfl, rfl⟩
theorem no (w h : Int) (hf : ¬ fits w h) (s : Option Addr) (n m : Nat) (W : World) : Calls Try.prog 3 #[.int .i64 w, .int .i64 h, .slice s n m] W fun e w' => e = .returned (.bool true) ∧ Below W.heap.size W w' := by
  have n1 := new_no w h hf
  have n2 := newR_no w h hf
  have n3 := size_n
  clear hf
  go_enter Try.func3, Try.ntmps3
  go_wp2_with (first | (go_at_call 11; (with_reducible refine (n1 _).mono ?_); rintro e wn ⟨rfl, rfl⟩) | (go_at_call 12; (with_reducible refine (n2 _).mono ?_); rintro e wn ⟨rfl, rfl⟩) | (go_at_call 13; (with_reducible refine (n3 _).mono ?_); rintro e wn ⟨rfl, rfl⟩))
  refine (ex14_c _).mono ?_
  rintro e w4 ⟨rfl, hb⟩
  have B4 := Lib.hid hb
  clear hb
  go_wp2_with fail
  go_ret
  exact ⟨rfl, B4.out⟩
set_option maxHeartbeats 8000000 in
theorem yes (w h : Nat) (hf : fits (w : Int) (h : Int)) (l : List OpV) (s : Option Addr) (m : Nat) (W : World) (HO : HoldsO W s l) : Calls Try.prog 3 #[.int .i64 (w : Int), .int .i64 (h : Int), .slice s l.length m] W fun e w' => e = .returned (.bool true) ∧ Below W.heap.size W w' := by
  have n1 := new_yes w h hf W
  have n2 := newR_yes w h hf
  have HOO := Lib.hid HO
  clear HO hf
  have bw : ((w : Int) != (w : Int)) = false := by simp
  have bh : ((h : Int) != (h : Int)) = false := by simp
  go_enter Try.func3, Try.ntmps3
  go_wp2_with fail
  refine n1.mono ?_
  rintro e w1 ⟨A, V, S, T, R, rfl, hC, hB⟩
  have C1 := Lib.hid hC
  have B1 := Lib.hid hB
  clear hC hB n1
  go_wp2_with fail
  refine (n2 _).mono ?_
  rintro e w2 ⟨A2, C, rfl, hC, hB⟩
  have BB : Hid (Both w2 W.heap.size A V S T R A2 C w h (playQ w h l 0)) := ⟨C1.out.below hB, hC.lower B1.out.size⟩
  have B2 := Lib.hid (below_call B1.out hB)
  have sz := size_c BB.out.cb
  clear hC hB n2 C1 B1
  go_wp2_with fail
  refine sz.mono ?_
  rintro e w3 ⟨rfl, hb⟩
  have H3 := Lib.hid (BB.out.below hb)
  have B3 := Lib.hid (below_call B2.out hb)
  clear hb sz BB B2
  by_cases hs : w ≤ 12 ∧ h ≤ 12 ∧ l.length ≤ 40
  · have s1 : ¬ (12 : Int) < (w : Int) := by omega
    have s2 : ¬ (12 : Int) < (h : Int) := by omega
    have s3 : ¬ (40 : Int) < (l.length : Int) := by omega
    have hl40 : l.length ≤ 40 := hs.2.2
    clear hs
    go_wp2_with fail
    clear s1 s2 s3
    go_loopw [13] (fun i wr => ∃ k : Nat, k ≤ l.length ∧ i = .int .i64 (k : Int) ∧ Hid (Both wr W.heap.size A V S T R A2 C w h (playQ w h l k) ∧ Below W.heap.size W wr)) (fun i _ => l.length - (intOf i).toNat)
    case atStart => exact ⟨0, Nat.zero_le _, rfl, H3.out, B3.out⟩
    case round =>
      obtain ⟨k, hk, rfl, hT⟩ := hrel
      by_cases hlt : k < l.length
      · obtain ⟨g, off, rfl, oo⟩ := HOO.out.at hlt
        have hq := playQ_succ w h l k hlt
        generalize l[k] = o at *
        have HQ := Lib.hid hq
        have OO := Lib.hid oo
        have D0 : Hid (Both wr.drew W.heap.size A V S T R A2 C w h (playQ w h l k) ∧ Below W.heap.size W wr.drew) := ⟨hT.out.1.below (Below.refl _ _).drew, hT.out.2.drew⟩
        have d1 := do2_c D0.out.1.cb D0.out.1.rb o D0.out.2.size
        have q0 := oo.below hT.out.2
        have qD := oo.below D0.out.2
        unfold OpV.val at d1
        unfold OpAt at q0 qD
        generalize hE : doE w h o = E at *
        have HE := Lib.hid hE
        have ee : (E != E) = false := by simp
        clear hq oo hE
        go_wp2_with fail
        go_region_held3 (fun w' => w'.cell? ⟨g, off + k * 4, none⟩ = some (.int .i64 o.k) ∧ w'.cell? ⟨g, off + k * 4 + 1, none⟩ = some (.int .i64 o.x) ∧ w'.cell? ⟨g, off + k * 4 + 2, none⟩ = some (.int .i64 o.y) ∧ w'.cell? ⟨g, off + k * 4 + 3, none⟩ = some (.int .i64 o.v))
          (first | (with_reducible exact q0) | (with_reducible exact qD) | (with_reducible exact q5) | (with_reducible exact q6) | (with_reducible exact q7) | fail)
          (first | (go_simp; go_at_call 15; (with_reducible refine d1.mono ?_); rintro e w5 ⟨rfl, hC, hR, hB⟩; have C5 := Lib.hid hC; have R5 := Lib.hid hR; have B5 := Lib.hid (D0.out.2.trans hB); have q5 := OO.out.below B5.out; unfold OpAt at q5; have d2 := want2_c C5.out R5.out o B5.out.size; unfold OpV.val at d2; rw [HE.out] at d2; clear hC hR hB) | (go_simp; go_at_call 16; (with_reducible refine d2.mono ?_); rintro e w6 ⟨rfl, hC, hR, hB⟩; have C6 := Lib.hid hC; have R6 := Lib.hid hR; have B6 := Lib.hid (B5.out.trans hB); have q6 := OO.out.below B6.out; unfold OpAt at q6; have al := alike_c C6.out R6.out; clear hC hR hB d2) | (go_simp; go_at_call 17; (with_reducible refine al.mono ?_); rintro e w7 ⟨rfl, hB⟩; have C7 := Lib.hid (C6.out.below hB); have R7 := Lib.hid (R6.out.below hB); have B7 := Lib.hid (below_call B6.out hB); have q7 := OO.out.below B7.out; unfold OpAt at q7; clear hB al) | fail)
        all_goals
          have F7 : Hid (Both w7 W.heap.size A V S T R A2 C w h (playQ w h l (k + 1)) ∧ Below W.heap.size W w7) := by
            rw [HQ.out]; exact ⟨⟨C7.out, R7.out⟩, B7.out⟩
          clear d1 q0 qD q5 q6 q7
          go_wp2_with fail
          go_roundw
          case rel => exact ⟨k + 1, by omega, by go_num, F7⟩
          case measure => simp [intOf]; omega
      · obtain rfl : k = l.length := by omega
        have al := alike_c hT.out.1.cb hT.out.1.rb
        go_wp2_with fail
        refine al.mono ?_
        rintro e w5 ⟨rfl, hb⟩
        have B5 := Lib.hid (below_call hT.out.2 hb)
        clear hb al
        go_wp2_with fail
        refine (ex14_c _).mono ?_
        rintro e w6 ⟨rfl, hb⟩
        have B6 := Lib.hid (below_call B5.out hb)
        clear hb
        go_wp2_with fail
        go_ret
        exact ⟨rfl, B6.out⟩
  · have hc : (12 : Int) < (w : Int) ∨ (¬ (12 : Int) < (w : Int) ∧ (12 : Int) < (h : Int)) ∨ (¬ (12 : Int) < (w : Int) ∧ ¬ (12 : Int) < (h : Int) ∧ (40 : Int) < (l.length : Int)) := by omega
    clear hs
    rcases hc with s1 | ⟨s1, s2⟩ | ⟨s1, s2, s3⟩ <;>
     (go_wp2_with fail
      refine (ex14_c _).mono ?_
      rintro e w4 ⟨rfl, hb⟩
      have B4 := Lib.hid (below_call B3.out hb)
      clear hb
      go_wp2_with fail
      go_ret
      exact ⟨rfl, B4.out⟩)
theorem walk (w h : Int) (l : List OpV) (s : Option Addr) (m : Nat) (W : World) (HO : HoldsO W s l) : Calls Try.prog 3 #[.int .i64 w, .int .i64 h, .slice s l.length m] W fun e w' => e = .returned (.bool true) ∧ Below W.heap.size W w' := by
  by_cases hf : fits w h
  · obtain ⟨w0, rfl⟩ : ∃ n : Nat, w = n := ⟨w.toNat, by unfold fits at hf; omega⟩
    obtain ⟨h0, rfl⟩ : ∃ n : Nat, h = n := ⟨h.toNat, by unfold fits at hf; omega⟩
    exact yes w0 h0 hf l s m W HO
  · exact no w h hf s l.length m W

set_option maxRecDepth 100000 in
theorem lifted (os : Os) (started : os.Started) (H : Type) (enc : TypeId × Value → H) :
    ReturnsInHanded {} Try.checked os 3 .any (Rows.cblkPlaysSpec.pre6 enc Try.prog Try.f3 Rows.cblkPlaysRow.domain false) (Rows.cblkPlaysSpec.post enc Try.prog Try.f3 false true false false) := by
  refine returnsInHanded_of_change (C := Try.checked) own started (by kernel_rfl) Try.func3
    (ChangeSpec.witness6 (enc := enc) (C := Try.checked) false ⟨#[], #[.int .i64 0, .int .i64 0, .slice none 0 0], []⟩ 8 (by kernel_rfl) (by kernel_rfl) (by kernel_rfl) (by kernel_rfl)) ?_
  intro W base args ds gs before hval0 hW _ _
  have hval : ∀ (j : Nat) t v, Try.f3.params[j]? = some t → args[j]? = some v → Value.okWide Try.prog W .any base t v := hval0
  have hW' := hW
  obtain ⟨p, q, hA0, hV, rfl, _, _⟩ := hW
  have hA : DataW.TrodAll enc Try.prog W 0 (fun _ => true) true Try.f3.params.toList args.toList ds p := hA0
  rw [Try.params3] at hA hval
  obtain ⟨v0, vs0, d0, ds0, p0, q0, hargs, rfl, rfl, h0, r0⟩ := trodAll_cons hA
  obtain ⟨v1, vs1, d1, ds1, p1, q1, rfl, rfl, rfl, h1, r1⟩ := trodAll_cons r0
  obtain ⟨v2, vs2, d2, ds2, p2, q2, rfl, rfl, rfl, h2, r2⟩ := trodAll_cons r1
  obtain ⟨rfl, rfl, rfl⟩ := trodAll_nil r2
  obtain rfl : args = #[v0, v1, v2] := by cases args; simp_all
  obtain ⟨rfl, rfl⟩ := trodVars_none hV
  clear hA0 hval0
  simp only [List.append_nil] at hW'
  have l0 : ∀ x ∈ p0, x.block < W.heap.size := fun x hx => hW'.lt x (by simp [hx])
  have l1 : ∀ x ∈ p1, x.block < W.heap.size := fun x hx => hW'.lt x (by simp [hx])
  have l2 : ∀ x ∈ p2, x.block < W.heap.size := fun x hx => hW'.lt x (by simp [hx])
  obtain ⟨i0, rfl, _, _, wi0⟩ := open_int Try.underlying3 (hval 0 3 v0 rfl rfl) h0
  obtain ⟨i1, rfl, _, _, wi1⟩ := open_int Try.underlying3 (hval 1 3 v1 rfl rfl) h1
  obtain ⟨s2, o2, m2, rfl, hO2⟩ := open_ops (hval 2 22 v2 rfl rfl) h2
  refine (walk i0 i1 o2 s2 m2 W hO2).mono fun e W' ⟨he, hb⟩ => ?_
  subst he
  exact ⟨_, rfl, post_low (pa := p0 ++ (p1 ++ (p2 ++ ([])))) (pv := []) hW' (fun _ _ _ => (trodAll_cons_mk (shut_bool Try.underlying4 _) trodAll_mk0)) (fun sp hsp => (trodAll_cons_mk (trod_low laidOut (by kernel_rfl) (of_decide_eq_true (by kernel_rfl)) h0 hb l0 (fun x hx => hsp x (by simp [hx]))) (trodAll_cons_mk (trod_low laidOut (by kernel_rfl) (of_decide_eq_true (by kernel_rfl)) h1 hb l1 (fun x hx => hsp x (by simp [hx]))) (trodAll_cons_mk (trod_low laidOut (by kernel_rfl) (of_decide_eq_true (by kernel_rfl)) h2 hb l2 (fun x hx => hsp x (by simp [hx]))) trodAll_mk0)))) (fun _ _ => rfl) (by simp) hb (ok_one (by kernel_rfl) rfl (okWide_bool_mk Try.underlying4 _))⟩

theorem over : Rows.cblkPlaysRow.holds Try.pinned (OpenSpec.ofChange Rows.cblkPlaysSpec) :=
  OpenClaim.holds_of_wide 3 Try.f3 rfl rfl rfl rfl rfl rfl rfl ⟨rfl, rfl, rfl, rfl, rfl⟩ rfl rfl rfl rfl rfl (by kernel_rfl) Try.func3 (by kernel_rfl)
    (of_decide_eq_true (by kernel_rfl)) (by unfold Func.isWrapper; first | (rw [if_pos (by decide +kernel)]; kernel_rfl) | (rw [if_neg (by decide +kernel)]; exact ⟨rfl, rfl⟩))
    (fun os started H enc _ => lifted os started H enc)

theorem proved : Rows.CblkPlaysSaid :=
  over
#print axioms proved
end Go.Proofs.Ytdpfojenljejiaa.cblkPlays
