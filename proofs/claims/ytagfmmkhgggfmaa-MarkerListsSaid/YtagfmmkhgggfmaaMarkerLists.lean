/-
  For every list of segments and every slice of bytes the statement MarkerLists returns true; both read afterwards as before.
  Conditions: none beyond those of the given statement.
-/
import Derived.Test.YtagfmmkhgggfmaaMy
import Derived.Test.YtagfmmkhgggfmaaNa
set_option maxRecDepth 100000
namespace Go.Proofs.Ytagfmmkhgggfmaa.markerLists
open Go.ChangeShapes Go.WideShapes Go.ChangeAt Go.RowKit Go.Joins Go.Deep

set_option maxRecDepth 100000 in
set_option maxHeartbeats 2000000 in
theorem walk (Ds : List (Int × List Int × Option Addr × Nat)) (s : Option Addr) (m : Nat) (af : List Int) (sa : Option Addr) (ma : Nat) (w : World) (hS : Ds = [] ∨ ∃ b off, s = some ⟨b, off, none⟩ ∧ ∀ k (hk : k < Ds.length), SegAt w b (off + k * 2) Ds[k]) (hA : HoldsB w sa af) (hsa : sa = none → af = [] ∧ ma = 0) (hBa : Mk.bytes af) :
    Calls Try.prog 9 #[.slice s Ds.length m, .slice sa af.length ma] w fun e w' => e = .returned (.bool true) ∧ Below w.heap.size w w' := by
  by_cases h1 : 20 < Ds.length
  · have d1 : decide ((20 : Int) < Ds.length) = true := decide_eq_true (by omega)
    have d1' : decide (20 < Ds.length) = true := decide_eq_true (by omega)
    clear hS hA hsa
    go_enter Try.func9, Try.ntmps9
    go_wp2_with (first | (go_at_call 14; (with_reducible refine (ex28_c _).mono ?_); rintro e wx ⟨rfl, hbx⟩) | fail)
    go_ret
    exact ⟨rfl, hbx⟩
  have d1 : decide ((20 : Int) < Ds.length) = false := decide_eq_false (by omega)
  have d1' : decide (20 < Ds.length) = false := decide_eq_false (by omega)
  by_cases h2 : 100 < af.length
  · have d2 : decide ((100 : Int) < af.length) = true := decide_eq_true (by omega)
    have d2' : decide (100 < af.length) = true := decide_eq_true (by omega)
    clear hS hA hsa
    go_enter Try.func9, Try.ntmps9
    go_wp2_with (first | (go_at_call 14; (with_reducible refine (ex28_c _).mono ?_); rintro e wx ⟨rfl, hbx⟩) | fail)
    go_ret
    exact ⟨rfl, hbx⟩
  have d2 : decide ((100 : Int) < af.length) = false := decide_eq_false (by omega)
  have d2' : decide (100 < af.length) = false := decide_eq_false (by omega)
  have HS := Lib.hid hS
  have HA := Lib.hid hA
  have HNA := Lib.hid hsa
  have HBA := Lib.hid hBa
  have HI := Lib.hid (Lst.start w)
  clear hS hA hsa hBa
  go_enter Try.func9, Try.ntmps9
  go_wp2_with fail
  clear d1 d1' d2 d2'
  go_loopw [5, 6, 27] (fun bv gv i wr => ∃ (k : Nat) (Q : List (Int × Value)) (gl : List (Int × List Int)) (sb : Option Addr) (mb : Nat), k ≤ Ds.length ∧ i = .int .i64 (k : Int) ∧ bv = .slice sb (Mk.flat gl).length mb ∧ Hid (Lst w k (.slice sb (Mk.flat gl).length mb) gv Q gl wr)) (fun _ _ i _ => Ds.length - (intOf i).toNat)
  case atStart => exact ⟨0, [], [], none, 0, Nat.zero_le _, rfl, rfl, HI⟩
  case round =>
    obtain ⟨k, Q, gl, sb, mb, hk, rfl, rfl, hT⟩ := hrel
    clear HI
    by_cases hlt : k < Ds.length
    · obtain ⟨b, off, rfl, hr⟩ : ∃ b off, s = some ⟨b, off, none⟩ ∧ ∀ k (hk : k < Ds.length), SegAt w b (off + k * 2) Ds[k] := by
        rcases HS.out with h0 | h0
        · exfalso; rw [h0] at hlt; simp at hlt
        · exact h0
      obtain ⟨c0, c1, hP, hBp, hNp⟩ := hr k hlt
      generalize Ds[k] = D at *
      obtain ⟨c, p, sp, mp⟩ := D
      simp only at c0 c1 hP hBp hNp
      have c0 := (hT.out.row.below.cell (p := ⟨b, _, none⟩) (cell_lt c0)).trans c0
      have c1 := (hT.out.row.below.cell (p := ⟨b, _, none⟩) (cell_lt c1)).trans c1
      have HP := Lib.hid hP
      have HBP := Lib.hid hBp
      have HNP := Lib.hid hNp
      have hi : (k : Int) < (Ds.length : Int) := by omega
      clear hr hP hBp hNp
      go_upto_region 8 with fail
      obtain ⟨W1, hW1⟩ : ∃ W, W = wr.alloc (.cells #[.int .i64 c, .slice sp p.length mp] 26) := ⟨_, rfl⟩
      obtain ⟨g1, hg1⟩ : ∃ g, g = wr.heap.size := ⟨_, rfl⟩
      have A1 := Lib.hid (show Below wr.heap.size wr W1 by rw [hW1]; exact (Below.refl _ _).alloc (Nat.le_refl _) _)
      have HK := Lib.hid (show Blk W1 g1 26 #[.int .i64 c, .slice sp p.length mp] by rw [hW1, hg1]; exact Blk.new _ _ _)
      have HT1 := Lib.hid (hT.out.call A1.out)
      rw [← hW1, ← hg1]
      clear hW1 hg1 A1 hT c0 c1
      obtain ⟨c0, c1⟩ := HK.out.two
      by_cases h5 : 500 < p.length
      · have d5 : decide ((500 : Int) < p.length) = true := decide_eq_true (by omega)
        have d5' : decide (500 < p.length) = true := decide_eq_true (by omega)
        go_wp2_with (first | (go_at_call 14; (with_reducible refine (ex28_c _).mono ?_); rintro e wx ⟨rfl, hbx⟩; have HBX := Lib.hid (below_call HT1.out.row.below hbx); clear hbx) | fail)
        go_ret
        exact ⟨rfl, HBX.out⟩
      · have d5 : decide ((500 : Int) < p.length) = false := decide_eq_false (by omega)
        have d5' : decide (500 < p.length) = false := decide_eq_false (by omega)
        obtain ⟨hb1, _, _, _, hb5⟩ := holds_own HT1.out.own
        have ka := append_c (Mk.flat gl) sb mb c p sp mp W1 hb1 hb5 (by have := HT1.out.short; omega) (HP.out.below HT1.out.row.below (Nat.le_refl _)) HNP.out (by omega)
        clear hb1 hb5
        by_cases hE : Mk.apE c p = 0
        · by_cases hg : c ≠ 65456 ∧ c ≠ 65458 ∧ c ≠ 65455
          · obtain ⟨g1', g2', g3'⟩ := hg
            have q1 : (c != 65456) = true := by simpa using g1'
            have q2 : (c != 65458) = true := by simpa using g2'
            have q3 : (c != 65455) = true := by simpa using g3'
            have q1' : (c == 65456) = false := by simpa using g1'
            have q2' : (c == 65458) = false := by simpa using g2'
            have q3' : (c == 65455) = false := by simpa using g3'
            have HM := Lib.hid (show Mk.mid (c, p) from ⟨hE, g1', g2', g3'⟩)
            have HX := Lib.hid (show Mk.ap (Mk.flat gl) c p = Mk.flat (gl ++ [(c, p)]) by rw [Mk.ap, if_pos hE, flat_snoc])
            rw [hE, HX.out] at ka
            have HSH := Lib.hid (show (Mk.flat (gl ++ [(c, p)])).length ≤ 504 * (k + 1) by rw [flat_snoc, List.length_append]; have := seg_len c p; have := HT1.out.short; omega)
            have HQL := Lib.hid (show Q.length ≤ 1000 by rw [HT1.out.row.len]; have := HT1.out.few; omega)
            clear hE g1' g2' g3' HX
            go_upto_region 12 with (first | (go_at_call 15; (with_reducible refine ka.mono ?_); rintro e w2 ⟨v2, rfl, ho, hb⟩; obtain ⟨_, s2, m2, rfl, _, _, _⟩ := HoldsB.of_own ho; have B2 := Lib.hid hb; have HO2 := Lib.hid (own_up ho HT1.out.row.below.size); have HT2 := Lib.hid (HT1.out.call hb); have HK2 := Lib.hid (HK.out.below hb); obtain ⟨e0, e1⟩ := HK2.out.two; clear ho hb ka) | fail)
            go_wp2_with (first | (at_builtin; refine wpAppT rfl _ _ rfl _ Q gl rfl (HT2.out.row.call ((Below.refl _ w2).alloc (Nat.le_refl _) _)) w2.heap.size 1 c sp mp p rfl (Blk.two (Blk.new w2 26 #[.int .i64 c, .slice sp p.length mp])).1 (Blk.two (Blk.new w2 26 #[.int .i64 c, .slice sp p.length mp])).2 HP.out HNP.out (by have := HQL.out; omega) _ _ (own_below HO2.out ((Below.refl _ w2).alloc (Nat.le_refl _) _)) ?_; intro v3 w3 HR3 HO3) | fail)
            go_roundw
            case rel => exact ⟨k + 1, _, gl ++ [(c, p)], s2, m2, by omega, by go_num, rfl, ⟨HR3.out, HO3.out, fun x hx => by
              rcases List.mem_append.1 hx with h | h
              · exact HT2.out.mid x h
              · simp at h; subst h; exact HM.out, by have := HT2.out.few; simp; omega, HSH.out, by rw [flat_snoc]; exact Mk.bytes_app HT2.out.byt (seg_bytes _ _ HBP.out)⟩⟩
            case measure => simp [intOf]; omega
          · rw [hE] at ka
            clear hE
            by_cases g1' : c = 65456
            · have q1 : (c != 65456) = false := by simpa using g1'
              have q1' : (c == 65456) = true := by simpa using g1'
              clear g1' hg
              go_wp2_with (first | (go_at_call 15; (with_reducible refine ka.mono ?_); rintro e w2 ⟨v2, rfl, ho, hb⟩; obtain ⟨_, s2, m2, rfl, _, _, _⟩ := HoldsB.of_own ho; have B2 := Lib.hid hb; have HO2 := Lib.hid (own_up ho HT1.out.row.below.size); have HT2 := Lib.hid (HT1.out.call hb); have HK2 := Lib.hid (HK.out.below hb); obtain ⟨e0, e1⟩ := HK2.out.two; clear ho hb ka) | fail)
              go_roundw
              case rel => exact ⟨k + 1, Q, gl, sb, mb, by omega, by go_num, rfl, HT2.out.more⟩
              case measure => simp [intOf]; omega
            · have q1 : (c != 65456) = true := by simpa using g1'
              have q1' : (c == 65456) = false := by simpa using g1'
              by_cases g2' : c = 65458
              · have q2 : (c != 65458) = false := by simpa using g2'
                have q2' : (c == 65458) = true := by simpa using g2'
                clear g1' g2' hg
                go_wp2_with (first | (go_at_call 15; (with_reducible refine ka.mono ?_); rintro e w2 ⟨v2, rfl, ho, hb⟩; obtain ⟨_, s2, m2, rfl, _, _, _⟩ := HoldsB.of_own ho; have B2 := Lib.hid hb; have HO2 := Lib.hid (own_up ho HT1.out.row.below.size); have HT2 := Lib.hid (HT1.out.call hb); have HK2 := Lib.hid (HK.out.below hb); obtain ⟨e0, e1⟩ := HK2.out.two; clear ho hb ka) | fail)
                go_roundw
                case rel => exact ⟨k + 1, Q, gl, sb, mb, by omega, by go_num, rfl, HT2.out.more⟩
                case measure => simp [intOf]; omega
              · have g3' : c = 65455 := by omega
                have q2 : (c != 65458) = true := by simpa using g2'
                have q2' : (c == 65458) = false := by simpa using g2'
                have q3 : (c != 65455) = false := by simpa using g3'
                have q3' : (c == 65455) = true := by simpa using g3'
                clear g1' g2' g3' hg
                go_wp2_with (first | (go_at_call 15; (with_reducible refine ka.mono ?_); rintro e w2 ⟨v2, rfl, ho, hb⟩; obtain ⟨_, s2, m2, rfl, _, _, _⟩ := HoldsB.of_own ho; have B2 := Lib.hid hb; have HO2 := Lib.hid (own_up ho HT1.out.row.below.size); have HT2 := Lib.hid (HT1.out.call hb); have HK2 := Lib.hid (HK.out.below hb); obtain ⟨e0, e1⟩ := HK2.out.two; clear ho hb ka) | fail)
                go_roundw
                case rel => exact ⟨k + 1, Q, gl, sb, mb, by omega, by go_num, rfl, HT2.out.more⟩
                case measure => simp [intOf]; omega
        · generalize Mk.apE c p = E at *
          have q0 : (E == 0) = false := by simpa using hE
          clear hE
          go_wp2_with (first | (go_at_call 15; (with_reducible refine ka.mono ?_); rintro e w2 ⟨v2, rfl, ho, hb⟩; obtain ⟨_, s2, m2, rfl, _, _, _⟩ := HoldsB.of_own ho; have B2 := Lib.hid hb; have HO2 := Lib.hid (own_up ho HT1.out.row.below.size); have HT2 := Lib.hid (HT1.out.call hb); have HK2 := Lib.hid (HK.out.below hb); obtain ⟨e0, e1⟩ := HK2.out.two; clear ho hb ka) | fail)
          go_roundw
          case rel => exact ⟨k + 1, Q, gl, sb, mb, by omega, by go_num, rfl, HT2.out.more⟩
          case measure => simp [intOf]; omega
    · obtain rfl : k = Ds.length := by omega
      have hsh := hT.out.short
      obtain ⟨hb1, _, _, _, hb5⟩ := holds_own hT.out.own
      have ka := append_c (Mk.flat gl) sb mb 65455 [] none 0 wr hb1 hb5 (by omega) (.inl rfl) (fun _ => ⟨rfl, rfl⟩) (by simp)
      simp only [List.length_nil] at ka
      rw [show Mk.apE 65455 [] = 0 by kernel_rfl, show Mk.ap (Mk.flat gl) 65455 [] = Mk.flat gl ++ Mk.seg 65455 [] by rw [Mk.ap, if_pos (by kernel_rfl)]] at ka
      obtain ⟨X, hX⟩ : ∃ X, X = Mk.flat gl ++ Mk.seg 65455 [] := ⟨_, rfl⟩
      rw [← hX] at ka
      have hXl : X.length ≤ 20000 := by rw [hX, List.length_append]; have := seg_len 65455 []; simp at this; omega
      have HXL := Lib.hid hXl
      have HAL := Lib.hid (show af.length ≤ 100 by omega)
      have HALL := Lib.hid (fun (L : List Int) (s' : Option Addr) (m' : Nat) (W : World) (B : Nat) (hL : L = X ++ af) (ho : W.ownsRow B 5 1 (.slice s' L.length m') L.length (L.map (Value.int .u8))) => (show Calls Try.prog 19 #[.slice s' L.length m', .int .i64 0] W (GivesAl ⟨gl, ((Mk.flat gl).length : Nat), 0⟩ W) by
        obtain ⟨h1, _, h3, h4, _⟩ := holds_own ho
        have hl : L.length ≤ 1000000 := by rw [hL, List.length_append]; have := HXL.out; have := HAL.out; omega
        have hb : Mk.bytes L := by rw [hL, hX]; exact Mk.bytes_app (Mk.bytes_app hT.out.byt (seg_bytes _ _ (fun x hx => by simp at hx))) HBA.out
        have := all_c L s' m' 0 W h1 hb h3 hl h4
        have e := Mk.al_flat gl hT.out.mid [] af (L.length + 1) (by
          have h5 := hT.out.few
          have h6 : L.length + 1 > gl.length := by
            rw [hL, hX, List.length_append, List.length_append]
            have : gl.length ≤ (Mk.flat gl).length := flat_ge gl
            omega
          exact h6)
        have e2 : L = [] ++ (Mk.flat gl ++ (Mk.seg 65455 [] ++ af)) := by rw [hL, hX]; simp
        rw [← e2] at e
        rw [show ((([] : List Int).length : Nat) : Int) = 0 from rfl] at e
        rw [e] at this
        simpa using this))
      have HGL := Lib.hid (show gl.length ≤ 100000 by have := hT.out.few; omega)
      obtain ⟨sg, mg, hgv, hhg⟩ := hT.out.row.holds
      subst hgv
      have HHG := Lib.hid hhg
      clear hX hXl hb1 hb5 hsh hhg
      go_wp2_with (first | (go_at_call 15; (with_reducible refine ka.mono ?_); rintro e w2 ⟨v2, rfl, ho, hb⟩; obtain ⟨_, s2, m2, rfl, _, _, _⟩ := HoldsB.of_own ho; have B2 := Lib.hid hb; have HT2 := Lib.hid (hT.out.call hb); have R2 := Lib.hid (Rw.mk ho hb (Nat.le_refl _)); clear ho hb ka) | (at_builtin; refine wpApp rfl _ _ rfl _ X af _ _ rfl R2.out sa ma rfl (HA.out.below HT2.out.row.below (Nat.le_refl _)) HNA.out (by have := HXL.out; have := HAL.out; omega) ?_; intro L3 s3 m3 w3 HL3 R3; have kl := HALL.out L3 s3 m3 w3 _ HL3.out R3.out.own; have HT3 := Lib.hid (hT.out.call R3.out.below); clear R2) | (go_at_call 19; (with_reducible refine kl.mono ?_); rintro e w4 ⟨v4, Q4, rfl, ho, hs, hb⟩; obtain ⟨s4, m4, rfl, hh, _, _⟩ := own_holdsS ho hs; have HT4 := Lib.hid (HT3.out.call hb); have H4 := Lib.hid hh; clear ho hs hh kl; have ks := same_segs w4 gl Q4 Q s4 sg m4 mg H4.out (HHG.out.call ((bcall R3.out.below hb (Nat.le_trans R3.out.le R3.out.below.size) |> fun _ => below_call (show Below wr.heap.size wr w3 from R3.out.below) hb))) (by have := HGL.out; omega); clear hb) | (go_at_call 22; (with_reducible refine ks.mono ?_); rintro e w5 ⟨rfl, hb⟩; have B5 := Lib.hid (below_call HT4.out.row.below hb); clear hb ks) | (go_at_call 14; (with_reducible refine (ex28_c _).mono ?_); rintro e wx ⟨rfl, hbx⟩; have HBX := Lib.hid (below_call B5.out hbx); clear hbx) | fail)
      go_ret
      exact ⟨rfl, HBX.out⟩

set_option maxRecDepth 100000 in
theorem lifted (os : Os) (started : os.Started) (H : Type) (enc : TypeId × Value → H) :
    ReturnsInHanded {} Try.checked os 9 .any (Rows.markerListsSpec.pre6 enc Try.prog Try.f9 Rows.markerListsRow.domain false) (Rows.markerListsSpec.post enc Try.prog Try.f9 false true false false) := by
  refine returnsInHanded_of_change (C := Try.checked) own started (by kernel_rfl) Try.func9
    (ChangeSpec.witness6 (enc := enc) (C := Try.checked) false ⟨#[], #[.slice none 0 0, .slice none 0 0], []⟩ 8 (by kernel_rfl) (by kernel_rfl) (by kernel_rfl) (by kernel_rfl)) ?_
  intro W base args ds gs before hval0 hW _ _
  have hval : ∀ (j : Nat) t v, Try.f9.params[j]? = some t → args[j]? = some v → Value.okWide Try.prog W .any base t v := hval0
  have hW' := hW
  obtain ⟨p, q, hA0, hV, rfl, _, _⟩ := hW
  have hA : DataW.TrodAll enc Try.prog W 0 (fun _ => true) true Try.f9.params.toList args.toList ds p := hA0
  rw [Try.params9] at hA hval
  obtain ⟨v0, vs0, d0, ds0, p0, q0, hargs, rfl, rfl, h0, r0⟩ := trodAll_cons hA
  obtain ⟨v1, vs1, d1, ds1, p1, q1, rfl, rfl, rfl, h1, r1⟩ := trodAll_cons r0
  obtain ⟨rfl, rfl, rfl⟩ := trodAll_nil r1
  obtain rfl : args = #[v0, v1] := by cases args; simp_all
  obtain ⟨rfl, rfl⟩ := trodVars_none hV
  clear hA0 hval0
  simp only [List.append_nil] at hW'
  have l0 : ∀ x ∈ p0, x.block < W.heap.size := fun x hx => hW'.lt x (by simp [hx])
  have l1 : ∀ x ∈ p1, x.block < W.heap.size := fun x hx => hW'.lt x (by simp [hx])
  obtain ⟨s0, l0x, m0, rfl, hS0⟩ := open_segs (hval 0 33 v0 rfl rfl) h0
  obtain ⟨s1, b1, m1, rfl, hB1, hY1, hm1, hM1, hn1⟩ := open_bytes (hval 1 24 v1 rfl rfl) h1
  refine (walk l0x s0 m0 b1 s1 m1 W hS0 hB1 hn1 hY1).mono fun e W' ⟨he, hb⟩ => ?_
  subst he
  exact ⟨_, rfl, post_low (pa := p0 ++ (p1 ++ ([]))) (pv := []) hW' (fun _ _ _ => (trodAll_cons_mk (shut_bool Try.underlying4 _) trodAll_mk0)) (fun sp hsp => (trodAll_cons_mk (trod_low laidOut (by kernel_rfl) (of_decide_eq_true (by kernel_rfl)) h0 hb l0 (fun x hx => hsp x (by simp [hx]))) (trodAll_cons_mk (trod_low laidOut (by kernel_rfl) (of_decide_eq_true (by kernel_rfl)) h1 hb l1 (fun x hx => hsp x (by simp [hx]))) trodAll_mk0))) (fun _ _ => rfl) (by simp) hb (ok_one (by kernel_rfl) rfl (okWide_bool_mk Try.underlying4 _))⟩

theorem over : Rows.markerListsRow.holds Try.pinned (OpenSpec.ofChange Rows.markerListsSpec) :=
  OpenClaim.holds_of_wide 9 Try.f9 rfl rfl rfl rfl rfl rfl rfl ⟨rfl, rfl, rfl, rfl, rfl⟩ rfl rfl rfl rfl rfl (by kernel_rfl) Try.func9 (by kernel_rfl)
    (of_decide_eq_true (by kernel_rfl)) (by unfold Func.isWrapper; first | (rw [if_pos (by decide +kernel)]; kernel_rfl) | (rw [if_neg (by decide +kernel)]; exact ⟨rfl, rfl⟩))
    (fun os started H enc _ => lifted os started H enc)

theorem proved : Rows.MarkerListsSaid :=
  over
#print axioms proved
end Go.Proofs.Ytagfmmkhgggfmaa.markerLists
