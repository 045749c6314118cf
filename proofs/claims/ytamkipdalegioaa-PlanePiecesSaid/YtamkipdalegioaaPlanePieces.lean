/-
  For all planes p the statement PlanePieces returns true (a plane that is not valid, or of more than 20 columns or rows, is left alone), and its argument reads afterwards as before.
  Conditions: none beyond those of the given statement.
-/
import Derived.Test.YtamkipdalegioaaFrame
import Derived.Test.YtamkipdalegioaaPlnT
import Derived.Test.YtamkipdalegioaaOpenP
namespace Go.Proofs.Ytamkipdalegioaa.planePieces
open Go.ChangeShapes Go.WideShapes Go.ChangeAt Go.RowKit Go.Joins Go.Deep

set_option maxRecDepth 100000 in
set_option maxHeartbeats 2000000 in
theorem walk (a b c d : Int) (s : Option Addr) (l : List Int) (m : Nat) (hm : l.length ≤ m) (w : World) (hH : HoldsI w s l) :
    Calls Try.prog 10 #[.agg #[.int .i64 a, .int .i64 b, .int .i64 c, .int .i64 d, .slice s l.length m]] w fun e w' => e = .returned (.bool true) ∧ Below w.heap.size w w' := by
  by_cases hv : vsB a b c d l.length = true
  · have hp := vs_pv hv
    have hl1 := pv_le hp
    obtain ⟨i0, hi, hz0, hz1, hz2⟩ := info_parts infoI
    obtain ⟨v1, v2, v3, v4, v5, v6⟩ := Pl.valid_iff.1 (pv_iff.1 hp).1
    obtain ⟨N, hN⟩ : ∃ N : Nat, (c - a).toNat = N := ⟨_, rfl⟩
    obtain ⟨M, hM⟩ : ∃ M : Nat, (d - b).toNat = M := ⟨_, rfl⟩
    have hN4 : N ≤ 4096 := by omega
    have eN : IntKind.i64.wrap (c - a) = (N : Int) := by rw [IntWalk.i64_in _ (by omega)]; omega
    have eM : IntKind.i64.wrap (d - b) = (M : Int) := by rw [IntWalk.i64_in _ (by omega)]; omega
    go_enter Try.func10, Try.ntmps10
    go_wp2_with fail
    refine (vs_r _ _ _ _ _ _ _ _).mono ?_
    rintro e w1 ⟨rfl, hb1⟩
    have hS1 := (Q1.fresh a b c d s l.length m w).step hb1
    obtain ⟨c0, c1, c2, c3, c4⟩ := hS1.q.open
    have G0 : Gs a b c d s l.length m (.slice none 0 0) [] w w1 := ⟨hS1, World.ownsRow_nil _ _ _ _⟩
    clear hb1
    go_wp2_with fail
    clear c0 c1 c2 c3 c4 hS1
    go_loopw [3, 4] (fun v i wr => ∃ (Y : Int) (out : List Int) (v0 : Value), b ≤ Y ∧ Y ≤ d ∧ i = .int .i64 Y ∧ out = l.take (idx a b c a Y).toNat ∧ v0 = v ∧ Gs a b c d s l.length m v0 out w wr) (fun _ i _ => (d - intOf i).toNat)
    case atStart => exact ⟨b, [], _, Int.le_refl _, v5, rfl, by simp [idx], rfl, G0⟩
    case round =>
      obtain ⟨Y, out, v0, hY0, hY1, rfl, hO, rfl, hG⟩ := hrel
      clear G0
      obtain ⟨c0, c1, c2, c3, c4⟩ := hG.q1.q.open
      by_cases hlt : Y < d
      · have hwy : IntKind.i64.wrap (Y + 1) = Y + 1 := IntWalk.i64_in _ (by omega)
        have HN : Hid _ := rows_next hp hY0 hlt hO
        have hlen : out.length ≤ 1048576 := by rw [hO, List.length_take]; omega
        have hrl : (rowL ⟨a, b, c, d⟩ l Y).length = N := by rw [rowL_len]; exact hN
        have HRL : Hid _ := hrl
        obtain ⟨ky, hky⟩ : ∃ ky : Nat, Y - b = (ky : Int) := ⟨(Y - b).toNat, by omega⟩
        have eky : IntKind.i64.wrap (Y - b) = (ky : Int) := by rw [IntWalk.i64_in _ (by omega)]; omega
        have kyM : (ky : Int) < (M : Int) := by omega
        clear hO hrl
        go_wp2_with fail
        clear c0 c1 c2 c3 c4
        refine (row_a a b c d Y s m l _ N hN hp hY0 hlt hm (hH.below hG.q1.below (Nat.le_refl _))).mono ?_
        rintro e w5 ⟨g, n5, rfl, hg5, hR5, hb5⟩
        have hne : v0.ownBlock ≠ some g := fun h => by have := (hG.own.lt g h).2; omega
        have G5 := hG.step hb5
        have G5l := G5.q1.q.lt
        obtain ⟨c0, c1, c2, c3, c4⟩ := G5.q1.q.open
        have hnews : ∀ j x, ((rowL ⟨a, b, c, d⟩ l Y).map (Value.int .i64))[j]? = some x → w5.cell? ((⟨g, 0, none⟩ : Addr).add j) = some x := by
          intro j x hj
          rw [List.getElem?_map] at hj
          obtain ⟨z, hz, rfl⟩ := Option.map_eq_some_iff.1 hj
          obtain ⟨hlj, rfl⟩ := List.getElem?_eq_some_iff.1 hz
          have := holdsI_at hR5 hlj
          rw [add_plain]
          exact this
        have HNews : Hid _ := hnews
        clear hnews hb5 hG
        go_wp2_with (first | (at_builtin; refine wpList_append_own _ rfl _ _ 24 rfl (w.heap.size + 1) 3 i0 (.int .i64 0) 1 8 Try.underlying24 hi hz0 hz1 hz2 rfl (by decide) _ _ _ rfl G5.own ⟨g, 0, none⟩ N n5 ((rowL ⟨a, b, c, d⟩ l Y).map (Value.int .i64)) rfl (by rw [List.length_map, HRL.out, Nat.mul_one]) HNews.out (oneI _) (by unfold maxLen; omega) (by omega) (by omega) ?_))
        intro v' w6 hown6 hgrow6 _
        have hR6 := holds_grown hR5 hgrow6 hne
        obtain ⟨sv, mv, rfl⟩ := own_slice hown6
        have G6 := G5.pushL HRL.out hgrow6 hown6
        clear hown6 hgrow6 hR5 G5 HNews c0 c1 c2 c3 c4 hne
        obtain ⟨c0, c1, c2, c3, c4⟩ := G6.q1.q.open
        go_wp2_with fail
        clear c0 c1 c2 c3 c4
        go_loopw [7] (fun i wr => ∃ X : Int, a ≤ X ∧ X ≤ c ∧ i = .int .i64 X ∧ Gs a b c d s l.length m (.slice sv (out.length + N) mv) (out ++ rowL ⟨a, b, c, d⟩ l Y) w wr ∧ HoldsI wr (some ⟨g, 0, none⟩) (rowL ⟨a, b, c, d⟩ l Y)) (fun i _ => (c - intOf i).toNat)
        case atStart => exact ⟨a, Int.le_refl _, v2, rfl, G6, hR6⟩
        case round =>
          clear G6 hR6
          obtain ⟨X, hX0, hX1, rfl, hG, hR⟩ := hrel
          obtain ⟨c0, c1, c2, c3, c4⟩ := hG.q1.q.open
          by_cases hltx : X < c
          · have hwx : IntKind.i64.wrap (X + 1) = X + 1 := IntWalk.i64_in _ (by omega)
            have hh : Pl.hasB a b c d X Y = true := Pl.has_iff.2 ⟨hX0, hltx, hY0, hlt⟩
            obtain ⟨kx, hkx⟩ : ∃ kx : Nat, X - a = (kx : Int) := ⟨(X - a).toNat, by omega⟩
            have ekx : IntKind.i64.wrap (X - a) = (kx : Int) := by rw [IntWalk.i64_in _ (by omega)]; omega
            have kxN : (kx : Int) < (N : Int) := by omega
            go_wp2_with fail
            clear c0 c1 c2 c3 c4
            refine (at_gv a b c d X Y s m l _ hp hh (hH.below hG.q1.below (Nat.le_refl _))).mono ?_
            rintro e w7 ⟨rfl, hb7⟩
            have G7 := hG.step hb7
            have hR7 := hR.call hb7
            obtain ⟨c0, c1, c2, c3, c4⟩ := G7.q1.q.open
            clear hb7 hG hR
            go_wp2_with fail
            clear c0 c1 c2 c3 c4
            refine (col_a a b c d X s m l _ M hM hp hX0 hltx (hH.below G7.q1.below (Nat.le_refl _))).mono ?_
            rintro e w8 ⟨tc, nc, rfl, hC8, hb8⟩
            have G8 := G7.step hb8
            have hR8 := hR7.call hb8
            obtain ⟨c0, c1, c2, c3, c4⟩ := G8.q1.q.open
            have hcl : ky < (colL ⟨a, b, c, d⟩ l X).length := by rw [colL_len]; show ky < (d - b).toNat; omega
            have hxl : kx < (rowL ⟨a, b, c, d⟩ l Y).length := by rw [HRL.out]; omega
            have y0 : w8.cell? ⟨g, kx, none⟩ = some (.int .i64 (gv ⟨a, b, c, d⟩ l X Y)) := by
              have h := holdsI_at hR8 hxl
              rw [row_get hxl, show a + (kx : Int) = X by omega, Nat.zero_add] at h
              exact h
            have z0 : ∃ bc oc, tc = some ⟨bc, oc, none⟩ ∧ w8.cell? ⟨bc, oc + ky, none⟩ = some (.int .i64 (gv ⟨a, b, c, d⟩ l X Y)) := by
              rcases hC8 with h0 | ⟨bc, oc, e, h0⟩
              · rw [h0] at hcl; exact absurd hcl (Nat.not_lt_zero _)
              · refine ⟨bc, oc, e, ?_⟩
                have h := h0 ky hcl
                rw [col_get hcl, show b + (ky : Int) = Y by omega] at h
                exact h
            obtain ⟨bc, oc, rfl, z1⟩ := z0
            obtain ⟨V, hV⟩ : ∃ V, V = gv ⟨a, b, c, d⟩ l X Y := ⟨_, rfl⟩
            rw [← hV] at y0 z1
            rw [← hV]
            clear hb8 G7 hR7 hC8 hcl hxl hV
            go_wp2
            go_roundw
            case rel => exact ⟨X + 1, by omega, by omega, by go_num, G8, hR8⟩
            case measure => simp [intOf]; omega
          · obtain rfl : X = c := by omega
            have HG : Hid _ := hG
            clear hG hR
            go_wp2
            go_roundw
            case rel => exact ⟨Y + 1, _, _, by omega, by omega, by go_num, HN.out, rfl, HG.out⟩
            case measure => simp [intOf]; omega
      · obtain rfl : d = Y := by omega
        rw [rows_end hp] at hO
        obtain rfl : l = out := hO.symm
        obtain ⟨sv, mv, rfl, hs⟩ := hG.holds
        go_wp2_with fail
        clear c0 c1 c2 c3 c4
        refine (ints_t l l.length rfl (by omega) _ _ _ _ _ hs (hH.below hG.q1.below (Nat.le_refl _))).mono ?_
        rintro e w8 ⟨rfl, hb8⟩
        have G8 := hG.step hb8
        go_wp2_with fail
        refine (example02_c _).mono ?_
        rintro e w9 ⟨rfl, hb9⟩
        have G9 := G8.step hb9
        go_wp2
        go_ret
        exact ⟨rfl, G9.q1.below⟩
  · have hv' : vsB a b c d l.length = false := by simpa using hv
    go_enter Try.func10, Try.ntmps10
    go_wp2_with fail
    refine (vs_r _ _ _ _ _ _ _ _).mono ?_
    rintro e w1 ⟨rfl, hb1⟩
    have hS1 := (Q1.fresh a b c d s l.length m w).step hb1
    go_wp2_with fail
    refine (example02_c _).mono ?_
    rintro e w2 ⟨rfl, hb2⟩
    go_wp2
    go_ret
    exact ⟨rfl, (hS1.step hb2).below⟩

set_option maxRecDepth 100000 in
theorem lifted (os : Os) (started : os.Started) (H : Type) (enc : TypeId × Value → H) :
    ReturnsInHanded {} Try.checked os 10 .any (Rows.planePiecesSpec.pre6 enc Try.prog Try.f10 Rows.planePiecesRow.domain false) (Rows.planePiecesSpec.post enc Try.prog Try.f10 false true false false) := by
  refine returnsInHanded_of_change (C := Try.checked) own started (by kernel_rfl) Try.func10
    (ChangeSpec.witness6 (enc := enc) (C := Try.checked) false ⟨#[], #[.agg #[.int .i64 0, .int .i64 0, .int .i64 0, .int .i64 0, .slice none 0 0]], []⟩ 8 (by kernel_rfl) (by kernel_rfl) (by kernel_rfl) (by kernel_rfl)) ?_
  intro W base args ds gs before hval0 hW _ _
  have hval : ∀ (j : Nat) t v, Try.f10.params[j]? = some t → args[j]? = some v → Value.okWide Try.prog W .any base t v := hval0
  have hW' := hW
  obtain ⟨p, q, hA0, hV, rfl, _, _⟩ := hW
  have hA : DataW.TrodAll enc Try.prog W 0 (fun _ => true) true Try.f10.params.toList args.toList ds p := hA0
  rw [Try.params10] at hA hval
  obtain ⟨v0, vs0, d0, ds0, p0, q0, hargs, rfl, rfl, h0, r0⟩ := trodAll_cons hA
  obtain ⟨rfl, rfl, rfl⟩ := trodAll_nil r0
  obtain rfl : args = #[v0] := by cases args; simp_all
  obtain ⟨rfl, rfl⟩ := trodVars_none hV
  clear hA0 hval0
  simp only [List.append_nil] at hW'
  have l0 : ∀ x ∈ p0, x.block < W.heap.size := fun x hx => hW'.lt x (by simp [hx])
  obtain ⟨a, b, c, d, s, l, m, rfl, hH0, hm0, hx0, hn0⟩ := open_plane (hval 0 26 v0 rfl rfl) h0
  refine (walk a b c d s l m hm0 W hH0).mono fun e W' ⟨he, hb⟩ => ?_
  subst he
  exact ⟨_, rfl, post_low (pa := p0 ++ ([])) (pv := []) hW' (fun _ _ _ => (trodAll_cons_mk (shut_bool Try.underlying4 _) trodAll_mk0)) (fun sp hsp => (trodAll_cons_mk (trod_low laidOut (by kernel_rfl) (of_decide_eq_true (by kernel_rfl)) h0 hb l0 (fun x hx => hsp x (by simp [hx]))) trodAll_mk0)) (fun _ _ => rfl) (by simp) hb (ok_one (by kernel_rfl) rfl (okWide_bool_mk Try.underlying4 _))⟩

theorem over : Rows.planePiecesRow.holds Try.pinned (OpenSpec.ofChange Rows.planePiecesSpec) :=
  OpenClaim.holds_of_wide 10 Try.f10 rfl rfl rfl rfl rfl rfl rfl ⟨rfl, rfl, rfl, rfl, rfl⟩ rfl rfl rfl rfl rfl (by kernel_rfl) Try.func10 (by kernel_rfl)
    (of_decide_eq_true (by kernel_rfl)) (by unfold Func.isWrapper; first | (rw [if_pos (by decide +kernel)]; kernel_rfl) | (rw [if_neg (by decide +kernel)]; exact ⟨rfl, rfl⟩))
    (fun os started H enc _ => lifted os started H enc)

theorem proved : Rows.PlanePiecesSaid :=
  over
#print axioms proved
end Go.Proofs.Ytamkipdalegioaa.planePieces
