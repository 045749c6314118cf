/-
  For all orientations, numbers of neighbors and increases the statement ContextOrder returns true; they read afterwards as before.
  Conditions: none beyond those of the given statement (the listed variables are tied by the card).
-/
import Derived.Test.YthmhapkeadkhbaaDoorCb
import Derived.Test.YthmhapkeadkhbaaDoorFrameC
import Derived.Test.YthmhapkeadkhbaaDoorTie
import Derived.Test.YthmhapkeadkhbaaDoorCards
import Derived.LaidMore
import Derived.Lay
import Derived.SevenTiedAt
import Derived.Stop.Joined
set_option maxRecDepth 100000
namespace Go.Proofs.YthmhapkeadkhbaaDoor.contextOrder
open Go.ChangeShapes Go.WideShapes Go.ChangeAt Go.RowKit Go.Joins Go.Deep

theorem str_mono : ∀ p s d p' s' d' : Nat, p < 3 → s < 3 → d < 5 → p' < 3 → s' < 3 → d' < 5 → p ≤ p' → s ≤ s' → d ≤ d' → strM p s d ≤ strM p' s' d' := by
  have h : ∀ (p s : Fin 3) (d : Fin 5) (p' s' : Fin 3) (d' : Fin 5), p.1 ≤ p'.1 → s.1 ≤ s'.1 → d.1 ≤ d'.1 → strM p.1 s.1 d.1 ≤ strM p'.1 s'.1 d'.1 := by decide +kernel
  exact fun p s d p' s' d' h1 h2 h3 h4 h5 h6 => h ⟨p, h1⟩ ⟨s, h2⟩ ⟨d, h3⟩ ⟨p', h4⟩ ⟨s', h5⟩ ⟨d', h6⟩
theorem dia_mono : ∀ n d n' d' : Nat, n < 5 → d < 5 → n' < 5 → d' < 5 → n ≤ n' → d ≤ d' → diaM n d ≤ diaM n' d' := by
  have h : ∀ n d n' d' : Fin 5, n.1 ≤ n'.1 → d.1 ≤ d'.1 → diaM n.1 d.1 ≤ diaM n'.1 d'.1 := by decide +kernel
  exact fun n d n' d' h1 h2 h3 h4 => h ⟨n, h1⟩ ⟨d, h2⟩ ⟨n', h3⟩ ⟨d', h4⟩
theorem str_top : ∀ p s d : Nat, strM p s d ≤ 8 ∨ 2 < s := by intro p s d; unfold strM; repeat' split <;> (try omega)
theorem dia_top : ∀ n d : Nat, diaM n d ≤ 8 := by intro n d; unfold diaM; repeat' split <;> (try omega)
theorem str_0 (p s d : Nat) (hp : p < 3) : strM p s d = 0 ↔ p = 0 ∧ s = 0 ∧ d = 0 := by unfold strM; repeat' split <;> (try omega)
theorem dia_0 (n d : Nat) : diaM n d = 0 ↔ n = 0 ∧ d = 0 := by unfold diaM; repeat' split <;> (try omega)
theorem sig_mono (o h v d x y z : Int) (h1 : h ≤ x) (h2 : v ≤ y) (h3 : d ≤ z) : sigM o h v d ≤ sigM o x y z := by
  have a1 : l2 h ≤ l2 x := by unfold l2 limM; omega
  have a2 : l2 v ≤ l2 y := by unfold l2 limM; omega
  have a3 : l4 d ≤ l4 z := by unfold l4 limM; omega
  have b1 := l2_lt h
  have b2 := l2_lt v
  have b3 := l4_lt d
  have c1 := l2_lt x
  have c2 := l2_lt y
  have c3 := l4_lt z
  unfold sigM sigN
  apply Int.ofNat_le.2
  split
  · exact dia_mono _ _ _ _ (by omega) b3 (by omega) c3 (by omega) a3
  · split
    · exact str_mono _ _ _ _ _ _ b2 b1 b3 c2 c1 c3 a2 a1 a3
    · exact str_mono _ _ _ _ _ _ b1 b2 b3 c1 c2 c3 a1 a2 a3
theorem sig_top (o h v d : Int) : 0 ≤ sigM o h v d ∧ sigM o h v d ≤ 8 := by
  have b1 := l2_lt h
  have b2 := l2_lt v
  have hd := dia_top (l2 h + l2 v) (l4 d)
  have s1 := str_top (l2 v) (l2 h) (l4 d)
  have s2 := str_top (l2 h) (l2 v) (l4 d)
  unfold sigM sigN
  refine ⟨Int.natCast_nonneg _, ?_⟩
  split
  · omega
  · split <;> omega
theorem sig_0 (o h v d : Int) (h0 : 0 ≤ h) (h1 : 0 ≤ v) (h2 : 0 ≤ d) : sigM o h v d = 0 ↔ h = 0 ∧ v = 0 ∧ d = 0 := by
  have hd := dia_0 (l2 h + l2 v) (l4 d)
  have s1 := str_0 (l2 v) (l2 h) (l4 d) (l2_lt v)
  have s2 := str_0 (l2 h) (l2 v) (l4 d) (l2_lt h)
  have e1 : l2 h = 0 ↔ h = 0 := by unfold l2 limM; omega
  have e2 : l2 v = 0 ↔ v = 0 := by unfold l2 limM; omega
  have e3 : l4 d = 0 ↔ d = 0 := by unfold l4 limM; omega
  unfold sigM sigN
  generalize l2 h = a at *
  generalize l2 v = b at *
  generalize l4 d = c at *
  split
  · omega
  · split <;> omega
theorem sgC_in (h v : Int) : 9 ≤ sgC (l1 h) (l1 v) ∧ sgC (l1 h) (l1 v) ≤ 13 := by
  have h1 := l1_cases h
  have h2 := l1_cases v
  unfold sgC
  split <;> omega
theorem ref_in (f g : Bool) : 14 ≤ refM f g ∧ refM f g ≤ 16 := by cases f <;> cases g <;> decide
set_option maxHeartbeats 4000000 in
theorem walk (o a b c x y z : Int) (w : World) (T : Tabs w) (ha : 0 ≤ a ∧ a ≤ 255) (hb : 0 ≤ b ∧ b ≤ 255) (hc : 0 ≤ c ∧ c ≤ 255) (hx : 0 ≤ x ∧ x ≤ 255) (hy : 0 ≤ y ∧ y ≤ 255) (hz : 0 ≤ z ∧ z ≤ 255) :
    Calls Tryd.prog 7 #[.int .i64 o, .agg #[.int .u8 a, .int .u8 b, .int .u8 c], .agg #[.int .u8 x, .int .u8 y, .int .u8 z]] w fun e w' => e = .returned (.bool true) ∧ Below w.heap.size w w' := by
  have HT := Lib.hid T
  have m := sig_mono o (a % 5) (b % 5) (c % 7) (a % 5 + x % 5) (b % 5 + y % 5) (c % 7 + z % 7) (by omega) (by omega) (by omega)
  have t1 := sig_top o (a % 5) (b % 5) (c % 7)
  have t2 := sig_top o (a % 5 + x % 5) (b % 5 + y % 5) (c % 7 + z % 7)
  have z0 := sig_0 o (a % 5) (b % 5) (c % 7) (by omega) (by omega) (by omega)
  have s1 := fun W T => sig_c o (a % 5) (b % 5) (c % 7) W T
  have s2 := fun W T => sig_c o (a % 5 + x % 5) (b % 5 + y % 5) (c % 7 + z % 7) W T
  generalize sigM o (a % 5) (b % 5) (c % 7) = A at *
  generalize sigM o (a % 5 + x % 5) (b % 5 + y % 5) (c % 7 + z % 7) = B at *
  have s3 := fun W T => sgn_c (a % 5 - 2) (b % 5 - 2) W T
  have i1 := sgC_in (a % 5 - 2) (b % 5 - 2)
  generalize sgC (l1 (a % 5 - 2)) (l1 (b % 5 - 2)) = C at *
  generalize sgF (l1 (a % 5 - 2)) (l1 (b % 5 - 2)) = G at *
  have s4 := fun W => ref_c (decide (1 < a % 5)) (decide (1 < b % 5)) W
  have i2 := ref_in (decide (1 < a % 5)) (decide (1 < b % 5))
  generalize refM (decide (1 < a % 5)) (decide (1 < b % 5)) = R at *
  have w1 : IntKind.i64.wrap (a % 5 - 2) = a % 5 - 2 := by rw [IntWalk.i64_left]; unfold wrap64; omega
  have w2 : IntKind.i64.wrap (b % 5 - 2) = b % 5 - 2 := by rw [IntWalk.i64_left]; unfold wrap64; omega
  obtain ⟨i1, i1'⟩ := i1
  obtain ⟨i2, i2'⟩ := i2
  obtain ⟨t1, _⟩ := t1
  obtain ⟨_, t2⟩ := t2
  have cases4 : (¬ a % 5 = 0 ∧ ¬ A = 0) ∨ (a % 5 = 0 ∧ ¬ b % 5 = 0 ∧ ¬ A = 0) ∨ (a % 5 = 0 ∧ b % 5 = 0 ∧ ¬ c % 7 = 0 ∧ ¬ A = 0) ∨ (a % 5 = 0 ∧ b % 5 = 0 ∧ c % 7 = 0 ∧ A = 0) := by omega
  have HM := Lib.hid m
  have HI := Lib.hid (And.intro (And.intro i1 i1') (And.intro i2 i2'))
  have HU := Lib.hid (And.intro t1 t2)
  have HC := Lib.hid cases4
  clear T z0 m i1 i1' i2 i2' t1 t2 cases4
  go_enter Tryd.func7, Tryd.ntmps7
  go_wp2_with fail
  go_quiet (fail)
  go_wp2_with fail
  generalize hq : nq = nq1
  go_quiet (fail)
  go_wp2_with fail
  generalize hq2 : nq1 + nq = n2
  clear hq2 hq
  have hb := below_call (below_alloc (below_alloc (Below.refl _ w) (.cells #[.int .u8 a, .int .u8 b, .int .u8 c] 35)) (.cells #[.int .u8 x, .int .u8 y, .int .u8 z] 35)) (drewN_below _ n2)
  have hT1 := HT.out.below hb
  have HT1 := Lib.hid hT1
  have HB := Lib.hid hb
  replace s1 := s1 _ hT1
  replace s2 := s2 _ hT1
  replace s3 := s3 _ hT1
  clear hb hT1
  generalize ((w.alloc (.cells #[.int .u8 a, .int .u8 b, .int .u8 c] 35)).alloc (.cells #[.int .u8 x, .int .u8 y, .int .u8 z] 35)).drewN n2 = W1 at *
  have hAB := HM.out
  obtain ⟨hA0, hB8⟩ := HU.out
  rcases HC.out with ⟨h1, hA⟩ | ⟨h1, h2, hA⟩ | ⟨h1, h2, h3, hA⟩ | ⟨h1, h2, h3, hA⟩
  · skip
    replace h1 : (a % 5 == 0) = false := by simpa using h1
    replace hA : (A == 0) = false := by simpa using hA
    refine s1.mono ?_
    rintro e wn ⟨rfl, rfl⟩
    go_wp2_with fail
    refine s2.mono ?_
    rintro e wn ⟨rfl, rfl⟩
    go_wp2_with fail
    refine s3.mono ?_
    rintro e w2 ⟨rfl, hb2⟩
    obtain ⟨⟨j1, j2⟩, j3, j4⟩ := HI.out
    go_wp2_with fail
    refine (s4 _).mono ?_
    rintro e wn ⟨rfl, rfl⟩
    go_wp2_with fail
    refine (ex13_c _ (HT1.out.below hb2)).mono ?_
    rintro e w4 ⟨rfl, hb4⟩
    go_wp2_with fail
    go_ret
    exact ⟨rfl, below_call (below_call HB.out hb2) hb4⟩
  · skip
    replace h1 : (a % 5 == 0) = true := by simpa using h1
    replace h2 : (b % 5 == 0) = false := by simpa using h2
    replace hA : (A == 0) = false := by simpa using hA
    refine s1.mono ?_
    rintro e wn ⟨rfl, rfl⟩
    go_wp2_with fail
    refine s2.mono ?_
    rintro e wn ⟨rfl, rfl⟩
    go_wp2_with fail
    refine s3.mono ?_
    rintro e w2 ⟨rfl, hb2⟩
    obtain ⟨⟨j1, j2⟩, j3, j4⟩ := HI.out
    go_wp2_with fail
    refine (s4 _).mono ?_
    rintro e wn ⟨rfl, rfl⟩
    go_wp2_with fail
    refine (ex13_c _ (HT1.out.below hb2)).mono ?_
    rintro e w4 ⟨rfl, hb4⟩
    go_wp2_with fail
    go_ret
    exact ⟨rfl, below_call (below_call HB.out hb2) hb4⟩
  · skip
    replace h1 : (a % 5 == 0) = true := by simpa using h1
    replace h2 : (b % 5 == 0) = true := by simpa using h2
    replace h3 : (c % 7 == 0) = false := by simpa using h3
    replace hA : (A == 0) = false := by simpa using hA
    refine s1.mono ?_
    rintro e wn ⟨rfl, rfl⟩
    go_wp2_with fail
    refine s2.mono ?_
    rintro e wn ⟨rfl, rfl⟩
    go_wp2_with fail
    refine s3.mono ?_
    rintro e w2 ⟨rfl, hb2⟩
    obtain ⟨⟨j1, j2⟩, j3, j4⟩ := HI.out
    go_wp2_with fail
    refine (s4 _).mono ?_
    rintro e wn ⟨rfl, rfl⟩
    go_wp2_with fail
    refine (ex13_c _ (HT1.out.below hb2)).mono ?_
    rintro e w4 ⟨rfl, hb4⟩
    go_wp2_with fail
    go_ret
    exact ⟨rfl, below_call (below_call HB.out hb2) hb4⟩
  · skip
    replace h1 : (a % 5 == 0) = true := by simpa using h1
    replace h2 : (b % 5 == 0) = true := by simpa using h2
    replace h3 : (c % 7 == 0) = true := by simpa using h3
    replace hA : (A == 0) = true := by simpa using hA
    refine s1.mono ?_
    rintro e wn ⟨rfl, rfl⟩
    go_wp2_with fail
    refine s2.mono ?_
    rintro e wn ⟨rfl, rfl⟩
    go_wp2_with fail
    refine s3.mono ?_
    rintro e w2 ⟨rfl, hb2⟩
    obtain ⟨⟨j1, j2⟩, j3, j4⟩ := HI.out
    go_wp2_with fail
    refine (s4 _).mono ?_
    rintro e wn ⟨rfl, rfl⟩
    go_wp2_with fail
    refine (ex13_c _ (HT1.out.below hb2)).mono ?_
    rintro e w4 ⟨rfl, hb4⟩
    go_wp2_with fail
    go_ret
    exact ⟨rfl, below_call (below_call HB.out hb2) hb4⟩

set_option maxRecDepth 100000 in
theorem lifted (os : Os) (started : os.Started) (H : Type) (enc : TypeId × Value → H) :
    ReturnsInHanded {} Tryd.checked os 7 .any (fun w args => (Rows.contextOrderSpec.pre enc Tryd.prog Tryd.f7 Rows.contextOrderRow.domain false w args ∧ laidMetH Tryd.prog Rows.contextOrderRow.laid w) ∧ sizedMet enc Tryd.prog Tryd.f7 (OpenSpec.ofChange Rows.contextOrderSpec) false w args)
      (Rows.contextOrderSpec.post enc Tryd.prog Tryd.f7 false true false false) := by
  refine returnsInHanded_of_change_and (C := Tryd.checked) (X := fun w _ => laidMetH Tryd.prog Rows.contextOrderRow.laid w) (fun _ _ _ hh h => h.of_heap hh) own started (by kernel_rfl) Tryd.func7
    (ChangeSpec.witness_shaped (enc := enc) (C := Tryd.checked) (os := os) (X := fun w _ => laidMetH Tryd.prog Rows.contextOrderRow.laid w) false (World.laidAll Tryd.prog os Rows.contextOrderRow.laid) #[.int .i64 0, .agg #[.int .u8 0, .int .u8 0, .int .u8 0], .agg #[.int .u8 0, .int .u8 0, .int .u8 0]] 8 (World.laidAll_os _ _ _)
      (World.shaped_of_ZipB (by kernel_rfl) (by kernel_rfl)) (by kernel_rfl) (by kernel_rfl) (by kernel_rfl)
      (by rw [MakeChecks.laidMetH_plain _ _ _ (by kernel_rfl)]; exact laidMet_laidAll _ (by kernel_rfl) (by kernel_rfl))) ?_
  intro W base args ds gs before hval0 hW _ _ hL _
  have hval : ∀ (j : Nat) t v, Tryd.f7.params[j]? = some t → args[j]? = some v → Value.okWide Tryd.prog W .any base t v := hval0
  have hT : Tabs W := tabs_of_laid hL
  have hW' := hW
  obtain ⟨p, q, hA0, hV, rfl, _, _⟩ := hW
  have hA : DataW.TrodAll enc Tryd.prog W 0 (fun _ => true) true Tryd.f7.params.toList args.toList ds p := hA0
  rw [Tryd.params7] at hA hval
  obtain ⟨v0, vs0, d0, ds0, p0, q0, hargs, rfl, rfl, h0, r0⟩ := trodAll_cons hA
  obtain ⟨v1, vs1, d1, ds1, p1, q1, rfl, rfl, rfl, h1, r1⟩ := trodAll_cons r0
  obtain ⟨v2, vs2, d2, ds2, p2, q2, rfl, rfl, rfl, h2, r2⟩ := trodAll_cons r1
  obtain ⟨rfl, rfl, rfl⟩ := trodAll_nil r2
  obtain rfl : args = #[v0, v1, v2] := by cases args; simp_all
  obtain ⟨rfl, rfl⟩ := trodVars_none hV
  clear hA0 hval0
  simp only [List.append_nil] at hW'
  have l0 : ∀ x ∈ p0, x.block < W.heap.size := fun x hx => hW'.lt x (by simp [hx])
  have l1 : ∀ x ∈ p1, x.block < W.heap.size := fun x hx => hW'.lt x (by simp [hx])
  have l2 : ∀ x ∈ p2, x.block < W.heap.size := fun x hx => hW'.lt x (by simp [hx])
  obtain ⟨i0, rfl, _, _, wi0⟩ := open_int Tryd.underlying22 (hval 0 22 v0 rfl rfl) h0
  obtain ⟨a1, b1, c1, rfl, ra1, rb1, rc1⟩ := open_U3 (hval 1 35 v1 rfl rfl) h1
  obtain ⟨a2, b2, c2, rfl, ra2, rb2, rc2⟩ := open_U3 (hval 2 35 v2 rfl rfl) h2
  refine (walk i0 a1 b1 c1 a2 b2 c2 W hT ra1 rb1 rc1 ra2 rb2 rc2).mono fun e W' ⟨he, hb⟩ => ?_
  subst he
  exact ⟨_, rfl, post_low (pa := p0 ++ (p1 ++ (p2 ++ ([])))) (pv := []) hW' (fun _ _ _ => (trodAll_cons_mk (shut_bool Tryd.underlying4 _) trodAll_mk0)) (fun sp hsp => (trodAll_cons_mk (trod_low laidOut (by kernel_rfl) (of_decide_eq_true (by kernel_rfl)) h0 hb l0 (fun x hx => hsp x (by simp [hx]))) (trodAll_cons_mk (trod_low laidOut (by kernel_rfl) (of_decide_eq_true (by kernel_rfl)) h1 hb l1 (fun x hx => hsp x (by simp [hx]))) (trodAll_cons_mk (trod_low laidOut (by kernel_rfl) (of_decide_eq_true (by kernel_rfl)) h2 hb l2 (fun x hx => hsp x (by simp [hx]))) trodAll_mk0)))) (fun _ _ => rfl) (by simp) hb (ok_one (by kernel_rfl) rfl (okWide_bool_mk Tryd.underlying4 _))⟩

theorem over : Rows.contextOrderRow.holds Tryd.pinned (OpenSpec.ofChange Rows.contextOrderSpec) :=
  OpenClaim.holds_of_wide 7 Tryd.f7 rfl rfl rfl rfl rfl rfl rfl ⟨rfl, rfl, rfl, rfl, rfl⟩ rfl rfl rfl rfl rfl (by kernel_rfl) Tryd.func7 (by kernel_rfl)
    (of_decide_eq_true (by kernel_rfl)) (by unfold Func.isWrapper; first | (rw [if_pos (by decide +kernel)]; kernel_rfl) | (rw [if_neg (by decide +kernel)]; exact ⟨rfl, rfl⟩))
    (fun os started H enc _ => lifted os started H enc)
theorem proved : Rows.ContextOrderCardSaid :=
  Claim7.holds_tied_plain_at .later [] [.data, .data, .data] true Rows.contextOrderCard.stood.harness false over (fun _ h => by cases h) (by kernel_rfl) (fun _ h => by cases h) contextOrder_row_tie rfl ⟨rfl, rfl⟩ (by kernel_rfl) rfl
    (fun f fn hf hfn => by
      obtain rfl : f = 7 := Option.some.inj ((show Tryd.prog.funcNamed Rows.contextOrderRow.func = some 7 by kernel_rfl).symm.trans hf) |>.symm
      obtain rfl : fn = Tryd.f7 := (Option.some.inj (Tryd.func7.symm.trans hfn)).symm
      exact ⟨by kernel_rfl, fun j t ht => by
        rw [Tryd.params7] at ht
        have hm : t ∈ [22, 35, 35] := by simpa using Array.mem_of_getElem? ht
        have hall : ([22, 35, 35].all fun u => !Tryd.prog.wantsStandIn u) = true := by kernel_rfl
        exact (show Tryd.prog.wantsStandIn t = false by simpa using List.all_eq_true.1 hall t hm)⟩)
    (by kernel_rfl)
#print axioms proved
end Go.Proofs.YthmhapkeadkhbaaDoor.contextOrder
