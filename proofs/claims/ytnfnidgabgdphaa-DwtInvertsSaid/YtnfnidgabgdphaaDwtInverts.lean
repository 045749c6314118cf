/-
  For all planes p and kernels k the statement DwtInverts returns true, and its arguments read afterwards as before.
  Conditions: none beyond those of the given statement.
-/
import Derived.Test.YtnfnidgabgdphaaFrame
import Derived.Test.YtnfnidgabgdphaaOpenP
import Derived.Test.YtnfnidgabgdphaaAwk
import Derived.Test.YtnfnidgabgdphaaLawB5
set_option maxRecDepth 100000
namespace Go.Proofs.Ytnfnidgabgdphaa.dwtInverts
open Go.ChangeShapes Go.WideShapes Go.ChangeAt Go.RowKit Go.Joins Go.Deep

set_option maxRecDepth 100000 in
set_option maxHeartbeats 8000000 in
theorem walk (a b c d kn : Int) (s : Option Addr) (l : List Int) (m : Nat) (w : World) (hm : l.length ≤ m) (hH : HoldsI w s l) : Calls Try.prog 6 #[.agg #[.int .i64 a, .int .i64 b, .int .i64 c, .int .i64 d, .slice s l.length m], .int .i64 kn] w fun e w' => e = .returned (.bool true) ∧ Below w.heap.size w w' := by
  have x0 := QBox.fresh w a b c d s l.length m 30
  have B0 := below_alloc (Below.refl _ w) (.cells #[.int .i64 a, .int .i64 b, .int .i64 c, .int .i64 d, .slice s l.length m] 30)
  go_enter Try.func6, Try.ntmps6
  go_wp2_with fail
  refine (few5_c ⟨a, b, c, d⟩ s l.length m _).mono ?_
  rintro e w1 ⟨rfl, hb⟩
  replace x0 := x0.below hb
  replace B0 := below_call B0 hb
  have H1 := hH.below B0 (Nat.le_refl _)
  clear hb hH
  by_cases hfw : l.length ≤ 4000
  · have gf : decide (l.length ≤ 4000) = true := decide_eq_true hfw
    have hl : l.length ≤ 140737488351232 := Nat.le_trans hfw (by decide)
    rw [gf]
    clear gf hfw
    obtain ⟨y0, y1, y2, y3, y4⟩ := x0.open
    rcases splitc_cases a b c d kn l s m hm hl with ⟨E, hE, cS⟩ | ⟨n, h, hp, hk, hf, hn, hh, cS⟩
    · have e1 : (E == 0) = false := by rw [beq_eq_false_iff_ne]; omega
      have e2 : (E != 0) = true := by rw [bne_iff_ne]; omega
      have e3 : decide (E = 0) = false := by rw [decide_eq_false_iff_not]; omega
      clear hE
      go_wp2_with fail
      refine (cS _ H1).mono ?_
      clear cS
      rintro e w2 ⟨s1, m1, rfl, hh1, hb⟩
      replace x0 := x0.below hb
      replace B0 := below_call B0 hb
      obtain ⟨A1, hA1⟩ : ∃ A1, A1 = arrP (fun _ => zR) (fun o => .slice (s1 o) ([] : List Int).length (m1 o)) := ⟨_, rfl⟩
      rw [← hA1]
      have HA1 : Hid _ := hA1
      have H20 : Hid (20 = A1.size) := by rw [hA1]; rfl
      have HI : Hid ((Try.prog.info? 33).map (·.size) = some A1.size) := by rw [hA1]; exact info20
      have hAo : A1.all (·.oneCell') = true := by rw [hA1]; simp [arrP_get, Value.oneCell']
      clear hA1 hb y0 y1 y2 y3 y4 H1 hh1
      go_upto_region 4 with (first | (refine wpList_store_row rfl 33 (.tmp 5) (.tmp 17) rfl w2.heap.size A1 rfl rfl 33 _ (Blk.fresh w2 33 #[.int .i64 0, .int .i64 0, .int .i64 0, .int .i64 0, .slice none 0 0, .int .i64 0, .int .i64 0, .int .i64 0, .int .i64 0, .slice none 0 0, .int .i64 0, .int .i64 0, .int .i64 0, .int .i64 0, .slice none 0 0, .int .i64 0, .int .i64 0, .int .i64 0, .int .i64 0, .slice none 0 0]) HI.out H20.out hAo ?_))
      obtain ⟨W3, hW3⟩ : ∃ W3, W3 = (w2.alloc (.cells #[.int .i64 0, .int .i64 0, .int .i64 0, .int .i64 0, .slice none 0 0, .int .i64 0, .int .i64 0, .int .i64 0, .int .i64 0, .slice none 0 0, .int .i64 0, .int .i64 0, .int .i64 0, .int .i64 0, .slice none 0 0, .int .i64 0, .int .i64 0, .int .i64 0, .int .i64 0, .slice none 0 0] 33)).setRow w2.heap.size A1 := ⟨_, rfl⟩
      have B3 : Below w.heap.size w W3 := by rw [hW3]; exact below_row (below_alloc B0 _) B0.size _
      have b3 : Blk W3 w2.heap.size 33 A1 := by rw [hW3]; exact (Blk.fresh w2 33 #[.int .i64 0, .int .i64 0, .int .i64 0, .int .i64 0, .slice none 0 0, .int .i64 0, .int .i64 0, .int .i64 0, .int .i64 0, .slice none 0 0, .int .i64 0, .int .i64 0, .int .i64 0, .int .i64 0, .slice none 0 0, .int .i64 0, .int .i64 0, .int .i64 0, .int .i64 0, .slice none 0 0]).row A1
      rw [← hW3]
      clear hW3 B0 hAo x0
      have a0 : W3.cell? ⟨w2.heap.size, 0, none⟩ = some (.int .i64 0) := b3.cell 0 _ (by rw [HA1.out]; rfl)
      have a1 : W3.cell? ⟨w2.heap.size, 1, none⟩ = some (.int .i64 0) := b3.cell 1 _ (by rw [HA1.out]; rfl)
      have a2 : W3.cell? ⟨w2.heap.size, 2, none⟩ = some (.int .i64 0) := b3.cell 2 _ (by rw [HA1.out]; rfl)
      have a3 : W3.cell? ⟨w2.heap.size, 3, none⟩ = some (.int .i64 0) := b3.cell 3 _ (by rw [HA1.out]; rfl)
      have a4 : W3.cell? ⟨w2.heap.size, 4, none⟩ = some (.slice (s1 0) 0 (m1 0)) := b3.cell 4 _ (by rw [HA1.out]; rfl)
      have cE : ∀ W, Calls Try.prog 23 #[.agg #[.int .i64 0, .int .i64 0, .int .i64 0, .int .i64 0, .slice (s1 0) 0 (m1 0)], .agg #[.int .i64 0, .int .i64 0, .int .i64 0, .int .i64 0, .slice none 0 0]] W fun e w' => e = .returned (.bool true) ∧ Below W.heap.size W w' := fun W => same5_eq 0 0 0 0 (s1 0) none (m1 0) 0 [] W (Nat.zero_le _) (.inl rfl) (.inl rfl)
      go_wp2_with (first | (go_at_call 23; (with_reducible refine (cE _).mono ?_); rintro e w8 ⟨rfl, hb8⟩) | (go_at_call 19; (with_reducible refine (awake_c _).mono ?_); rintro e w9 ⟨rfl, hb9⟩))
      go_ret
      exact ⟨rfl, below_call (below_call B3 hb8) hb9⟩
    · go_wp2_with fail
      refine (cS _ H1).mono ?_
      clear cS
      rintro e w2 ⟨s1, m1, rfl, hh1, hb⟩
      replace x0 := x0.below hb
      replace B0 := below_call B0 hb
      replace H1 := H1.call hb
      have cM := merge_split a b c d kn l n h hp hk hf hn hh s1 m1
      obtain ⟨D, hD⟩ : ∃ D : Nat → List Int, D = fun o => (bandQ a b kn n (Ex.cutR n l h) o).flatten := ⟨_, rfl⟩
      have hD' : ∀ o, (bandQ a b kn n (Ex.cutR n l h) o).flatten = D o := fun o => by rw [hD]
      simp only [hD'] at cM hh1 ⊢
      clear hD hD' hp hk hf hn hh
      obtain ⟨A1, hA1⟩ : ∃ A1, A1 = arrP (bnds ⟨a, b, c, d⟩) (fun o => .slice (s1 o) (D o).length (m1 o)) := ⟨_, rfl⟩
      rw [← hA1]
      have HA1 : Hid _ := hA1
      have H20 : Hid (20 = A1.size) := by rw [hA1]; rfl
      have HI : Hid ((Try.prog.info? 33).map (·.size) = some A1.size) := by rw [hA1]; exact info20
      have hAo : A1.all (·.oneCell') = true := by rw [hA1]; simp [arrP_get, Value.oneCell']
      clear hA1 hb y0 y1 y2 y3 y4
      go_upto_region 4 with (first | (refine wpList_store_row rfl 33 (.tmp 5) (.tmp 17) rfl w2.heap.size A1 rfl rfl 33 _ (Blk.fresh w2 33 #[.int .i64 0, .int .i64 0, .int .i64 0, .int .i64 0, .slice none 0 0, .int .i64 0, .int .i64 0, .int .i64 0, .int .i64 0, .slice none 0 0, .int .i64 0, .int .i64 0, .int .i64 0, .int .i64 0, .slice none 0 0, .int .i64 0, .int .i64 0, .int .i64 0, .int .i64 0, .slice none 0 0]) HI.out H20.out hAo ?_))
      obtain ⟨W3, hW3⟩ : ∃ W3, W3 = (w2.alloc (.cells #[.int .i64 0, .int .i64 0, .int .i64 0, .int .i64 0, .slice none 0 0, .int .i64 0, .int .i64 0, .int .i64 0, .int .i64 0, .slice none 0 0, .int .i64 0, .int .i64 0, .int .i64 0, .int .i64 0, .slice none 0 0, .int .i64 0, .int .i64 0, .int .i64 0, .int .i64 0, .slice none 0 0] 33)).setRow w2.heap.size A1 := ⟨_, rfl⟩
      have B3 : Below w.heap.size w W3 := by rw [hW3]; exact below_row (below_alloc B0 _) B0.size _
      have b3 : Blk W3 w2.heap.size 33 A1 := by rw [hW3]; exact (Blk.fresh w2 33 #[.int .i64 0, .int .i64 0, .int .i64 0, .int .i64 0, .slice none 0 0, .int .i64 0, .int .i64 0, .int .i64 0, .int .i64 0, .slice none 0 0, .int .i64 0, .int .i64 0, .int .i64 0, .int .i64 0, .slice none 0 0, .int .i64 0, .int .i64 0, .int .i64 0, .int .i64 0, .slice none 0 0]).row A1
      have x3 : QBox W3 w.heap.size ⟨a, b, c, d⟩ (.slice s l.length m) := by rw [hW3]; exact (x0.alloc _).but (But.setRow _) (Nat.ne_of_lt x0.lt)
      have H3 : HoldsI W3 s l := by rw [hW3]; exact holds_rowed H1 _ _
      have hh3 : ∀ o, o < 4 → HoldsI W3 (s1 o) (D o) := fun o ho => by rw [hW3]; exact holds_rowed (hh1 o ho).1 _ _
      rw [← hW3]
      clear hW3 B0 hAo x0 H1 hh1
      replace cM := cM A1 HA1.out W3 hh3
      obtain ⟨y0, y1, y2, y3, y4⟩ := x3.open
      go_wp2_with (first | (refine wpList_load_mid rfl 33 (.tmp 5) rfl w2.heap.size 0 rfl A1.toList _ b3.range Try.underlying33 rfl (by simpa using HI.out) ?_))
      refine cM.mono ?_
      rintro e w4 ⟨s4, m4, rfl, l4, k4, f4, b4⟩
      have x4 := x3.below b4
      have B4 := below_call B3 b4
      have H4 := H3.call b4
      clear cM b3 x3 B3 H3 hh3 y0 y1 y2 y3 y4 f4 b4
      obtain ⟨y0, y1, y2, y3, y4⟩ := x4.open
      go_upto_region 7 with fail
      obtain ⟨W5, hW5⟩ : ∃ W5, W5 = w4.alloc (.cells #[.int .i64 a, .int .i64 b, .int .i64 c, .int .i64 d, .slice s4 l.length m4] 30) := ⟨_, rfl⟩
      have x5 : QBox W5 w.heap.size ⟨a, b, c, d⟩ (.slice s l.length m) := by rw [hW5]; exact x4.alloc _
      have z5 : QBox W5 w4.heap.size ⟨a, b, c, d⟩ (.slice s4 l.length m4) := by rw [hW5]; exact QBox.fresh w4 a b c d s4 l.length m4 30
      have B5 : Below w.heap.size w W5 := by rw [hW5]; exact below_alloc B4 _
      have H5 : HoldsI W5 s l := by rw [hW5]; exact H4.alloc _
      have l5 : HoldsI W5 s4 l := by rw [hW5]; exact l4.alloc _
      rw [← hW5]
      clear hW5 x4 B4 H4 l4 y0 y1 y2 y3 y4
      obtain ⟨y0, y1, y2, y3, y4⟩ := x5.open
      obtain ⟨z0, z1, z2, z3, z4⟩ := z5.open
      go_wp2_with fail
      refine (ps_eq a b c d s s4 m m4 l _ hl H5 l5).mono ?_
      rintro e w6 ⟨rfl, hb⟩
      have x6 := x5.below hb
      have z6 := z5.below hb
      have H6 := H5.call hb
      have l6 := l5.call hb
      have B6 := below_call B5 hb
      clear y0 y1 y2 y3 y4 z0 z1 z2 z3 z4 x5 z5 H5 l5 B5 hb
      obtain ⟨y0, y1, y2, y3, y4⟩ := x6.open
      obtain ⟨z0, z1, z2, z3, z4⟩ := z6.open
      go_wp2_with fail
      refine (same5_eq a b c d s s4 m m4 l _ hl H6 l6).mono ?_
      rintro e w7 ⟨rfl, hb⟩
      have B7 := below_call B6 hb
      clear y0 y1 y2 y3 y4 z0 z1 z2 z3 z4 x6 z6 H6 l6 B6 hb
      go_wp2_with (first | (go_at_call 19; (with_reducible refine (awake_c _).mono ?_); rintro e w9 ⟨rfl, hb9⟩))
      go_ret
      exact ⟨rfl, below_call B7 hb9⟩
  · have gf : decide (l.length ≤ 4000) = false := decide_eq_false hfw
    rw [gf]
    go_wp2_with (first | (go_at_call 19; (with_reducible refine (awake_c _).mono ?_); rintro e w9 ⟨rfl, hb9⟩))
    go_ret
    exact ⟨rfl, below_call B0 hb9⟩

set_option maxRecDepth 100000 in
theorem lifted (os : Os) (started : os.Started) (H : Type) (enc : TypeId × Value → H) :
    ReturnsInHanded {} Try.checked os 6 .any (Rows.dwtInvertsSpec.pre6 enc Try.prog Try.f6 Rows.dwtInvertsRow.domain false) (Rows.dwtInvertsSpec.post enc Try.prog Try.f6 false true false false) := by
  refine returnsInHanded_of_change (C := Try.checked) own started (by kernel_rfl) Try.func6
    (ChangeSpec.witness6 (enc := enc) (C := Try.checked) false ⟨#[], #[.agg #[.int .i64 0, .int .i64 0, .int .i64 0, .int .i64 0, .slice none 0 0], .int .i64 0], []⟩ 8 (by kernel_rfl) (by kernel_rfl) (by kernel_rfl) (by kernel_rfl)) ?_
  intro W base args ds gs before hval0 hW _ _
  have hval : ∀ (j : Nat) t v, Try.f6.params[j]? = some t → args[j]? = some v → Value.okWide Try.prog W .any base t v := hval0
  have hW' := hW
  obtain ⟨p, q, hA0, hV, rfl, _, _⟩ := hW
  have hA : DataW.TrodAll enc Try.prog W 0 (fun _ => true) true Try.f6.params.toList args.toList ds p := hA0
  rw [Try.params6] at hA hval
  obtain ⟨v0, vs0, d0, ds0, p0, q0, hargs, rfl, rfl, h0, r0⟩ := trodAll_cons hA
  obtain ⟨v1, vs1, d1, ds1, p1, q1, rfl, rfl, rfl, h1, r1⟩ := trodAll_cons r0
  obtain ⟨rfl, rfl, rfl⟩ := trodAll_nil r1
  obtain rfl : args = #[v0, v1] := by cases args; simp_all
  obtain ⟨rfl, rfl⟩ := trodVars_none hV
  clear hA0 hval0
  simp only [List.append_nil] at hW'
  have l0 : ∀ x ∈ p0, x.block < W.heap.size := fun x hx => hW'.lt x (by simp [hx])
  have l1 : ∀ x ∈ p1, x.block < W.heap.size := fun x hx => hW'.lt x (by simp [hx])
  obtain ⟨a, b, c, d, s, l, m, rfl, hH0, hm0, hx0, hn0⟩ := open_plane (hval 0 30 v0 rfl rfl) h0
  obtain ⟨kn, rfl, _, _, w1⟩ := open_int Try.underlying31 (hval 1 31 v1 rfl rfl) h1
  refine (walk a b c d kn s l m W hm0 hH0).mono fun e W' ⟨he, hb⟩ => ?_
  subst he
  exact ⟨_, rfl, post_low (pa := p0 ++ (p1 ++ ([]))) (pv := []) hW' (fun _ _ _ => (trodAll_cons_mk (shut_bool Try.underlying4 _) trodAll_mk0)) (fun sp hsp => (trodAll_cons_mk (trod_low laidOut (by kernel_rfl) (of_decide_eq_true (by kernel_rfl)) h0 hb l0 (fun x hx => hsp x (by simp [hx]))) (trodAll_cons_mk (trod_low laidOut (by kernel_rfl) (of_decide_eq_true (by kernel_rfl)) h1 hb l1 (fun x hx => hsp x (by simp [hx]))) trodAll_mk0))) (fun _ _ => rfl) (by simp) hb (ok_one (by kernel_rfl) rfl (okWide_bool_mk Try.underlying4 _))⟩

theorem over : Rows.dwtInvertsRow.holds Try.pinned (OpenSpec.ofChange Rows.dwtInvertsSpec) :=
  OpenClaim.holds_of_wide 6 Try.f6 rfl rfl rfl rfl rfl rfl rfl ⟨rfl, rfl, rfl, rfl, rfl⟩ rfl rfl rfl rfl rfl (by kernel_rfl) Try.func6 (by kernel_rfl)
    (of_decide_eq_true (by kernel_rfl)) (by unfold Func.isWrapper; first | (rw [if_pos (by decide +kernel)]; kernel_rfl) | (rw [if_neg (by decide +kernel)]; exact ⟨rfl, rfl⟩))
    (fun os started H enc _ => lifted os started H enc)

theorem proved : Rows.DwtInvertsSaid :=
  over
#print axioms proved
end Go.Proofs.Ytnfnidgabgdphaa.dwtInverts
