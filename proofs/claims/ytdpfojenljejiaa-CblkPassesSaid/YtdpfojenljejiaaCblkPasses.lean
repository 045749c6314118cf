/-
  For all integers and modes the statement CblkPasses returns true; they read afterwards as before.
  Conditions: none beyond those of the given statement.
-/
import Derived.Test.YtdpfojenljejiaaEa
import Derived.Test.YtdpfojenljejiaaFa
set_option maxRecDepth 100000
namespace Go.Proofs.Ytdpfojenljejiaa.cblkPasses
open Go.ChangeShapes Go.WideShapes Go.ChangeAt Go.RowKit Go.Joins Go.Deep

theorem md {w : World} {g : Nat} {a b c d y : Bool} (h : Blk w g 47 #[.bool a, .bool b, .bool c, .bool d, .bool y]) : w.cell? ⟨g, 0, none⟩ = some (.bool a) ∧ w.cell? ⟨g, 1, none⟩ = some (.bool b) ∧ w.cell? ⟨g, 2, none⟩ = some (.bool c) ∧ w.cell? ⟨g, 3, none⟩ = some (.bool d) ∧ w.cell? ⟨g, 4, none⟩ = some (.bool y) := ⟨h.cell 0, h.cell 1, h.cell 2, h.cell 3, h.cell 4⟩
theorem segs_any (n : Int) (m : Mo) (W : World) : Calls Try.prog 29 #[.int .i64 n, m.val] W (GivesI (segs n m.b m.r) W) := by
  by_cases hp : n < 1 ∨ 178 < n
  · unfold segs; rw [if_pos hp]
    refine (segs_no n m hp W).mono ?_
    rintro e w' ⟨rfl, hb⟩
    exact ⟨none, 0, rfl, .inl rfl, hb⟩
  · obtain ⟨p, rfl⟩ : ∃ p : Nat, n = p := ⟨n.toNat, by omega⟩
    unfold segs; rw [if_neg hp, Int.toNat_natCast]
    obtain ⟨b, r, s, c, y⟩ := m
    cases r
    · exact segs_f p b s c y (by omega) (by omega) W
    · exact segs_t p b s c y (by omega) (by omega) W
theorem segsR_any (n : Int) (m : Mo) (W : World) : Calls Try.prog 30 #[.int .i64 n, m.val] W (GivesI (segs n m.b m.r) W) := by
  by_cases hp : n < 1 ∨ 178 < n
  · unfold segs; rw [if_pos hp]
    refine (segsR_no n m hp W).mono ?_
    rintro e w' ⟨rfl, hb⟩
    exact ⟨none, 0, rfl, .inl rfl, hb⟩
  · obtain ⟨p, rfl⟩ : ∃ p : Nat, n = p := ⟨n.toNat, by omega⟩
    unfold segs; rw [if_neg hp, Int.toNat_natCast]
    obtain ⟨b, r, s, c, y⟩ := m
    cases b <;> cases r
    · exact segsR_ff p s c y (by omega) (by omega) W
    · exact segsR_ft p s c y (by omega) (by omega) W
    · exact segsR_tf p s c y (by omega) (by omega) W
    · exact segsR_tt p s c y (by omega) (by omega) W
theorem segs_small (n : Int) (b r : Bool) : (segs n b r).length ≤ 1000000000 := by
  unfold segs
  split
  · simp
  · have := (segC_len b r n.toNat).1; omega
set_option maxHeartbeats 4000000 in
theorem walk (n : Int) (m : Mo) (W : World) (hn : n ≤ 9223372036854775807) : Calls Try.prog 6 #[.int .i64 n, m.val] W fun e w' => e = .returned (.bool true) ∧ Below W.heap.size W w' := by
  have p1 := pass_c n hn
  have p2 := passR_c n hn
  have r1 := raw_c n m hn
  have r2 := rawR_c n m hn
  have g1 := segs_any n m
  have g2 := segsR_any n m
  have HL := Lib.hid (segs_small n m.b m.r)
  generalize segs n m.b m.r = L at *
  generalize plnP n = a at *
  generalize kndP n = b at *
  generalize rawM n m.b = rr at *
  have ea : (a == a) = true := by simp
  have eb : (b == b) = true := by simp
  have er : (rr == rr) = true := by simp
  unfold Mo.val at *
  have hA := below_alloc (Below.refl _ W) (.cells #[.bool m.b, .bool m.r, .bool m.s, .bool m.c, .bool m.y] 47)
  have B0 := Lib.hid hA
  have M0 := Lib.hid (Blk.new W 47 #[.bool m.b, .bool m.r, .bool m.s, .bool m.c, .bool m.y])
  clear hn hA
  go_enter Try.func6, Try.ntmps6
  go_wp2_with (first | (go_at_call 24; (with_reducible refine (p1 _).mono ?_); rintro e wn ⟨rfl, rfl⟩) | (go_at_call 25; (with_reducible refine (p2 _).mono ?_); rintro e wn ⟨rfl, rfl⟩))
  have BD : Hid (Below W.heap.size W (W.alloc (.cells #[.bool m.b, .bool m.r, .bool m.s, .bool m.c, .bool m.y] 47)).drew) := B0.out.drew
  have MD : Hid (Blk (W.alloc (.cells #[.bool m.b, .bool m.r, .bool m.s, .bool m.c, .bool m.y] 47)).drew W.heap.size 47 #[.bool m.b, .bool m.r, .bool m.s, .bool m.c, .bool m.y]) := M0.out
  have qD := md MD.out
  have q0 := md M0.out
  go_region_held3 (fun w' => w'.cell? ⟨W.heap.size, 0, none⟩ = some (.bool m.b) ∧ w'.cell? ⟨W.heap.size, 1, none⟩ = some (.bool m.r) ∧ w'.cell? ⟨W.heap.size, 2, none⟩ = some (.bool m.s) ∧ w'.cell? ⟨W.heap.size, 3, none⟩ = some (.bool m.c) ∧ w'.cell? ⟨W.heap.size, 4, none⟩ = some (.bool m.y))
    (first | (with_reducible exact qD) | (with_reducible exact q0) | (with_reducible exact qw5) | (with_reducible exact qw6) | (with_reducible exact qw7) | (with_reducible exact qw8) | (with_reducible exact qw9) | (with_reducible exact qw10) | fail)
    (first | (go_simp; go_at_call 26; (with_reducible refine (r1 _).mono ?_); rintro e w5 ⟨rfl, hb⟩; have Bw5 := Lib.hid (below_call BD.out hb); have Mw5 := Lib.hid (MD.out.below hb); have qw5 := md Mw5.out; clear hb) | (go_simp; go_at_call 27; (with_reducible refine (r2 _).mono ?_); rintro e w6 ⟨rfl, hb⟩; have Bw6 := Lib.hid (below_call Bw5.out hb); have Mw6 := Lib.hid (Mw5.out.below hb); have qw6 := md Mw6.out; clear hb) | (go_simp; go_at_call 29; (with_reducible refine (g1 _).mono ?_); rintro e w7 ⟨sa, ma, rfl, hH, hb⟩; have Bw7 := Lib.hid (below_call Bw6.out hb); have Mw7 := Lib.hid (Mw6.out.below hb); have qw7 := md Mw7.out; have Ha := Lib.hid hH; clear hb hH) | (go_simp; go_at_call 30; (with_reducible refine (g2 _).mono ?_); rintro e w8 ⟨sb, mb, rfl, hH, hb⟩; have Bw8 := Lib.hid (below_call Bw7.out hb); have Mw8 := Lib.hid (Mw7.out.below hb); have qw8 := md Mw8.out; have sm := same14_t w8 L sa sb _ ma mb rfl (Ha.out.call hb) hH HL.out; clear hb hH) | (go_simp; go_at_call 28; (with_reducible refine sm.mono ?_); rintro e w9 ⟨rfl, hb⟩; have Bw9 := Lib.hid (below_call Bw8.out hb); have Mw9 := Lib.hid (Mw8.out.below hb); have qw9 := md Mw9.out; clear hb sm) | (go_simp; go_at_call 14; (with_reducible refine (ex14_c _).mono ?_); rintro e w10 ⟨rfl, hb⟩; have Bw10 := Lib.hid (below_call Bw9.out hb); have Mw10 := Lib.hid (Mw9.out.below hb); have qw10 := md Mw10.out; clear hb) | fail)
  all_goals
    go_wp2_with fail
    go_ret
    exact ⟨rfl, Bw10.out⟩

set_option maxRecDepth 100000 in
theorem lifted (os : Os) (started : os.Started) (H : Type) (enc : TypeId × Value → H) :
    ReturnsInHanded {} Try.checked os 6 .any (Rows.cblkPassesSpec.pre6 enc Try.prog Try.f6 Rows.cblkPassesRow.domain false) (Rows.cblkPassesSpec.post enc Try.prog Try.f6 false true false false) := by
  refine returnsInHanded_of_change (C := Try.checked) own started (by kernel_rfl) Try.func6
    (ChangeSpec.witness6 (enc := enc) (C := Try.checked) false ⟨#[], #[.int .i64 0, .agg #[.bool false, .bool false, .bool false, .bool false, .bool false]], []⟩ 8 (by kernel_rfl) (by kernel_rfl) (by kernel_rfl) (by kernel_rfl)) ?_
  intro W base args ds gs before hval0 hW _ _
  have hval : ∀ (j : Nat) t v, Try.f6.params[j]? = some t → args[j]? = some v → Value.okWide Try.prog W .any base t v := hval0
  have hW' := hW
  obtain ⟨p, q, hA0, hV, rfl, _, _⟩ := hW
  have hA : DataW.TrodAll enc Try.prog W 0 (fun _ => true) true Try.f6.params.toList args.toList ds p := hA0
  rw [Try.params6] at hA hval
  obtain ⟨v0, vs0, d0, ds0, p0, q0, hargs, rfl, rfl, h0, r0⟩ := trodAll_cons hA
  obtain ⟨v1, vs1, d1, ds1, p1, q1, rfl, rfl, rfl, h1, r1⟩ := trodAll_cons r0
  obtain ⟨rfl, rfl, rfl⟩ := trodAll_nil r1
  obtain rfl : args = #[v0, v1] := by cases args; simp_all
  obtain ⟨rfl, rfl⟩ := trodVars_none hV
  clear hA0 hval0
  simp only [List.append_nil] at hW'
  have l0 : ∀ x ∈ p0, x.block < W.heap.size := fun x hx => hW'.lt x (by simp [hx])
  have l1 : ∀ x ∈ p1, x.block < W.heap.size := fun x hx => hW'.lt x (by simp [hx])
  obtain ⟨i0, rfl, _, _, wi0⟩ := open_int Try.underlying3 (hval 0 3 v0 rfl rfl) h0
  obtain ⟨m1, rfl⟩ := open_mode (hval 1 47 v1 rfl rfl) h1
  refine (walk i0 m1 W (i64_of wi0).2).mono fun e W' ⟨he, hb⟩ => ?_
  subst he
  exact ⟨_, rfl, post_low (pa := p0 ++ (p1 ++ ([]))) (pv := []) hW' (fun _ _ _ => (trodAll_cons_mk (shut_bool Try.underlying4 _) trodAll_mk0)) (fun sp hsp => (trodAll_cons_mk (trod_low laidOut (by kernel_rfl) (of_decide_eq_true (by kernel_rfl)) h0 hb l0 (fun x hx => hsp x (by simp [hx]))) (trodAll_cons_mk (trod_low laidOut (by kernel_rfl) (of_decide_eq_true (by kernel_rfl)) h1 hb l1 (fun x hx => hsp x (by simp [hx]))) trodAll_mk0))) (fun _ _ => rfl) (by simp) hb (ok_one (by kernel_rfl) rfl (okWide_bool_mk Try.underlying4 _))⟩

theorem over : Rows.cblkPassesRow.holds Try.pinned (OpenSpec.ofChange Rows.cblkPassesSpec) :=
  OpenClaim.holds_of_wide 6 Try.f6 rfl rfl rfl rfl rfl rfl rfl ⟨rfl, rfl, rfl, rfl, rfl⟩ rfl rfl rfl rfl rfl (by kernel_rfl) Try.func6 (by kernel_rfl)
    (of_decide_eq_true (by kernel_rfl)) (by unfold Func.isWrapper; first | (rw [if_pos (by decide +kernel)]; kernel_rfl) | (rw [if_neg (by decide +kernel)]; exact ⟨rfl, rfl⟩))
    (fun os started H enc _ => lifted os started H enc)

theorem proved : Rows.CblkPassesSaid :=
  over
#print axioms proved
end Go.Proofs.Ytdpfojenljejiaa.cblkPasses
