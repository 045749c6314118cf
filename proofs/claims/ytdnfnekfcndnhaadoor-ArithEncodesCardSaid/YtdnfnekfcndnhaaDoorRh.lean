/-
  Layer 11, the reference's encoder: Terminate.
-/
import Derived.Test.YtdnfnekfcndnhaaDoorRg
import Derived.Test.YtdnfnekfcndnhaaDoorDa
set_option maxRecDepth 100000
namespace Go.Proofs.YtdnfnekfcndnhaaDoor
open Go.RowKit

theorem Ri.keep {w w1 : World} {g : Nat} {l : List Int} (h : Ri w g l) (hk : w1.heap[g]? = w.heap[g]?) : Ri w1 g l := h.elim fun cs z => ⟨cs, hk.trans z.1, z.2⟩
theorem ri_ne {w : World} {g base n : Nat} {l : List Int} {v : Value} {xs : List Value} (h : Ri w g l) (ho : w.ownsRow base 5 1 v n xs) : v.ownBlock ≠ some g := h.elim fun _ z => own_blk_ne ho z.1 (by decide)
/-- While the number is written down. -/
structure Wv (w : World) (g : Nat) (D : List Int) (q : Nat) (sv : Value) (wr : World) : Prop where
  bl : Below w.heap.size w wr
  ri : Ri wr g D
  ow : wr.ownsRow w.heap.size 5 1 sv q ((D.take q).map (Value.int .u8))
theorem Wv.next {w wr w2 : World} {g q : Nat} {D : List Int} {sv v' : Value} {X : Obj} (h : Wv w g D q sv wr) (hq : q < D.length)
    (hown : w2.ownsRow w.heap.size 5 1 v' (q + 1) ((D.take q).map (Value.int .u8) ++ [.int .u8 D[q]])) (hg : (wr.alloc X).grownBy w2 sv.ownBlock) : Wv w g D (q + 1) v' w2 := by
  have hz := h.bl.size
  refine ⟨(h.bl.alloc hz X).grown hg (by simp; omega) (fun k hk => (own_foot h.ow hk).1), h.ri.keep ?_, ?_⟩
  · exact (hg.block g (by have := h.ri.lt; simp; omega) (fun e => ri_ne h.ri h.ow e.symm)).trans (Below.heap_alloc wr X g h.ri.lt)
  · rw [List.take_succ_eq_append_getElem hq, List.map_append]; exact hown
/-- How many digits are left when the zeros at the end go. -/
def en (D : List Int) (q : Nat) : Nat := (Am.trim (D.take q)).length
theorem en_zero {D : List Int} {q : Nat} (hq : q < D.length) (h : D[q] = 0) : en D (q + 1) = en D q := by
  unfold en; rw [List.take_succ_eq_append_getElem hq, h, Am.trim_zero]
theorem en_other {D : List Int} {q : Nat} (hq : q < D.length) (h : D[q] ≠ 0) : en D (q + 1) = q + 1 := by
  unfold en; rw [List.take_succ_eq_append_getElem hq, Am.trim_other _ _ h]; simp; omega
theorem en_le (D : List Int) (q : Nat) : en D q ≤ q := Nat.le_trans (Am.trim_pre _).1 (List.length_take_le _ _)
/-- What Terminate returns: a slice over the codeword. -/
def VTerm (B a : Nat) (x : Am.X) (w : World) (e : Ending) (w' : World) : Prop := ∃ sl m, e = .returned (.slice (some sl) (Am.cw x.2).length m) ∧ HoldsB w' (some sl) (Am.cw x.2) ∧ (Am.cw x.2).length ≤ m ∧ w.heap.size ≤ sl.block ∧ Ve w' B a (x.1, Am.St.init) ∧ Kp a w w'
theorem holds_part {w : World} {base m n : Nat} {s : Option Addr} {D : List Int} (h : w.ownsRow base 5 1 (.slice s n m) n (D.map (Value.int .u8))) (k : Nat) : HoldsB w s (D.take k) := by
  obtain ⟨_, s', m', he, hH, _, _⟩ := HoldsB.of_own h
  simp at he
  obtain ⟨rfl, _⟩ := he
  rcases hH with rfl | ⟨b, off, rfl, hr⟩
  · left; simp
  · right
    refine ⟨b, off, rfl, fun i hi => ?_⟩
    rw [List.length_take] at hi
    rw [hr i (by omega), List.getElem_take]
set_option maxHeartbeats 8000000 in
theorem vterm_c (w : World) (B a : Nat) (x : Am.X) (h : Ve w B a x) (hok : Am.Ok x.2) (h1 : 1 ≤ x.1.length) (hl : x.1.length ≤ 64) (hn : x.2.n ≤ 1000000) :
    Calls Tryd.prog 10 #[.pointer (some ⟨a, 0, none⟩)] w (VTerm B a x w) := by
  obtain ⟨P, s⟩ := x
  obtain ⟨pv, lv, bg, h, hbg⟩ := h
  dsimp only at h hbg hok h1 hl hn
  obtain ⟨c0, c1, c2, c3⟩ := h.cells
  obtain ⟨sp, m, rfl⟩ := own_slice h.ps
  have hlw := h.lw
  rw [Am.dig_len] at hlw
  obtain ⟨s2, m2, rfl⟩ := own_slice hlw
  obtain ⟨g2, rfl, _, _, _, _⟩ := own_at hlw 0 (by omega)
  have H := Lib.hid h
  have HOK := Lib.hid hok
  have HR : 16777216 ≤ s.rg ∧ s.rg ≤ 4294967295 := ⟨hok.r1, hok.r2⟩
  have HTOP : Hid (s.lo + 1 ≤ Am.Pw (s.n + 4) ∧ 0 ≤ s.lo) := by show _ ∧ _; have := Am.top_pw hok; have := hok.r1; exact ⟨by omega, hok.lo⟩
  have hpn := fun W => ptrVn W ⟨a, 0, none⟩
  have hP0 : ¬ (P.length : Int) = 0 := by omega
  have hI : Hid (Below w.heap.size w (w.alloc (.cells #[] 5)) ∧ (w.alloc (.cells #[] 5)).ownsRow w.heap.size 5 1 (.slice (some ⟨w.heap.size, 0, none⟩) 0 0) 0 []) := ⟨(Below.refl _ _).alloc (Nat.le_refl _) _, World.ownsRow_made w #[] 0 (Nat.le_refl _) (by decide) (by simp)⟩
  obtain ⟨N, hN⟩ : ∃ N, N = s.n + 4 := ⟨_, rfl⟩
  rw [← hN] at c1
  have hN4 : 4 ≤ N := by omega
  have hNb : N ≤ 1000004 := by omega
  have HN := Lib.hid hN
  obtain ⟨rg, hrg⟩ : ∃ rg, rg = s.rg := ⟨_, rfl⟩
  rw [← hrg] at c2 HR
  have HRG := Lib.hid hrg
  obtain ⟨i0, hi, hz0, hz1, hz2⟩ := info_parts info8
  clear h hbg hok hlw hN hrg
  have ca : (w.alloc (.cells #[] 5)).cell? ⟨a, 1, none⟩ = some (.slice (some ⟨g2, 0, none⟩) N m2) := cell_alloc c1 _
  go_enter Tryd.func10, Tryd.ntmps10
  go_wp2_with fail
  rename ((P.length : Int) == 0) = false => hq0
  have H1 := Lib.hid h1
  clear c0 c1 c2 c3 ca hq0 hP0 h1
  go_loopw [3, 4] (fun z i wr => ∃ k, 3 ≤ k ∧ k ≤ N ∧ i = .int .i64 (k : Int) ∧ z = .slice (some ⟨w.heap.size, 0, none⟩) 0 0 ∧ Hid (Below w.heap.size w wr ∧ wr.ownsRow w.heap.size 5 1 (.slice (some ⟨w.heap.size, 0, none⟩) 0 0) 0 [] ∧ (k = 3 → Am.upB (s.n + 4) 4 s.lo s.rg = false))) (fun _ i _ => (intOf i).toNat)
  case atStart => exact ⟨N, by omega, Nat.le_refl _, rfl, rfl, hI.out.1, hI.out.2, fun e => by omega⟩
  case round =>
    obtain ⟨k, hk3, hkN, rfl, rfl, hT⟩ := hrel
    have hV := H.out.below hT.out.1
    obtain ⟨_, d1, d2, _⟩ := hV.cells
    rw [← HN.out] at d1
    rw [← HRG.out] at d2
    have HV := Lib.hid hV
    have HL : HoldsI wr.drew (some ⟨g2, 0, none⟩) (Am.dig N s.lo) := by
      obtain ⟨g', m', he, _, hR⟩ := ri_own hV.lw (by intro e; have := Am.dig_len (s.n + 4) s.lo; rw [e] at this; simp at this)
      simp at he
      obtain ⟨rfl, _⟩ := he
      rw [HN.out]
      exact hR.holds.drew
    have hup := up_c wr.drew g2 N k m2 s.lo rg hN4 (by omega) hkN HTOP.out.2 (by rw [HN.out]; exact HTOP.out.1) (by omega) HR.2 HL
    cases hb : Am.upB N k s.lo rg with
    | false =>
      have hup2 := hup.mono fun e w' hu => (show Below wr.drew.heap.size wr.drew w' ∧ e = .returned (.tuple #[.slice none 0 0, .bool false]) by
        refine ⟨hu.1, hu.2.elim (fun z => ?_) (fun z => z.2)⟩
        rw [hb] at z
        exact absurd z.1 (by decide))
      have HB := Lib.hid hb
      clear hV HL hup hb
      go_upto_region 7 with fail
      go_cut [5, 6] from 29 to 41 (fun v o wx => v = .slice none 0 0 ∧ o = .bool false ∧ Hid (Below wr.heap.size wr wx))
      case first =>
        go_region_law (first | (go_simp; go_at_call 31; (with_reducible refine hup2.mono ?_); rintro e x1 ⟨hub, rfl⟩; go_wp2_with fail) | fail)
        all_goals
          go_simp
          go_wp2_with fail
          go_meet
          exact ⟨rfl, rfl, ((Below.refl _ _).drew).trans hub⟩
      case rest =>
        obtain ⟨rfl, rfl, hX⟩ := hcut
        clear d1 d2 hup2
        go_wp2_with fail
        have hB2 := HB.out
        rw [HN.out, HRG.out] at hB2
        have hk4 : 4 ≤ k := by
          by_cases e : k = 3
          · subst e
            have := (Am.up_three HOK.out (hT.out.2.2 rfl)).1
            rw [hB2] at this
            exact absurd this (by decide)
          · omega
        have hN3 : k - 1 = 3 → Am.upB (s.n + 4) 4 s.lo s.rg = false := fun e => by
          obtain rfl : k = 4 := by omega
          exact hB2
        clear hB2
        go_roundw
        case rel => exact ⟨k - 1, by omega, by omega, by go_num, rfl, below_call hT.out.1 hX.out, own_below hT.out.2.1 hX.out, hN3⟩
        case measure => simp [intOf]; omega
    | true =>
      have hup2 := hup.mono fun e w' hu => (show Below wr.drew.heap.size wr.drew w' ∧ ∃ g m', e = .returned (.tuple #[.slice (some ⟨g, 0, none⟩) N m', .bool true]) ∧ wr.drew.heap.size ≤ g ∧ Ri w' g (Am.dig N (Am.upV k s.lo)) by
        refine ⟨hu.1, hu.2.elim (fun z => z.2) (fun z => ?_)⟩
        rw [hb] at z
        exact absurd z.1 (by decide))
      have HB := Lib.hid hb
      clear hV HL hup hb
      go_upto_region 7 with fail
      go_cut [5, 6] from 29 to 41 (fun v o wx => ∃ g m', v = .slice (some ⟨g, 0, none⟩) N m' ∧ o = .bool true ∧ Hid (Below wr.heap.size wr wx ∧ wr.heap.size ≤ g ∧ Ri wx g (Am.dig N (Am.upV k s.lo))))
      case first =>
        go_region_law (first | (go_simp; go_at_call 31; (with_reducible refine hup2.mono ?_); rintro e x1 ⟨hub, g, m', rfl, hu3, hu4⟩; go_wp2_with fail) | fail)
        all_goals
          go_simp
          go_wp2_with fail
          go_meet
          exact ⟨g, m', rfl, rfl, ((Below.refl _ _).drew).trans hub, hu3, hu4⟩
      case rest =>
        obtain ⟨g, m', rfl, rfl, hX⟩ := hcut
        have hup3 : Am.upV k s.lo = Am.cwv s := by
          have hB2 := HB.out
          rw [HN.out, HRG.out] at hB2
          by_cases e : k = 3
          · subst e
            exact (Am.up_three HOK.out (hT.out.2.2 rfl)).2
          · exact Am.up_four HOK.out (by omega) hB2
        obtain ⟨D, hD⟩ : ∃ D, D = Am.dig N (Am.cwv s) := ⟨_, rfl⟩
        have hRi := hX.out.2.2
        rw [hup3, ← hD] at hRi
        have hDl : D.length = N := by rw [hD, Am.dig_len]
        have HDb : Hid (Am.bytes D) := by rw [hD]; exact Am.dig_bytes _ _
        have HDt : Hid (Am.trim D = Am.cw s) := by rw [hD, HN.out]; exact Am.trim_cwv s
        have hW0 : Hid (Wv w g D 0 (.slice (some ⟨w.heap.size, 0, none⟩) 0 0) wc) := ⟨below_call hT.out.1 hX.out.1, hRi, own_below hT.out.2.1 hX.out.1⟩
        clear d1 d2 hup2 hup3 hD hRi hX
        go_wp2_with fail
        go_loopw [3, 7, 8] (fun z e i w3 => ∃ (q : Nat) (sv : Value), q ≤ N ∧ i = .int .i64 (q : Int) ∧ e = .int .i64 ((en D q : Nat) : Int) ∧ z = sv ∧ Hid (Wv w g D q sv w3)) (fun _ _ i _ => N - (intOf i).toNat)
        case atStart => exact ⟨0, _, Nat.zero_le _, rfl, rfl, rfl, hW0⟩
        case round =>
          obtain ⟨q, sv, hqN, rfl, rfl, hz, hW⟩ := hrel
          have hrow := hW.out.ow
          obtain ⟨s5, m5, rfl⟩ := own_slice hrow
          subst hz
          by_cases hlt : q < N
          · have hq : q < D.length := by omega
            have hc := hW.out.ri.at hq
            have hx := HDb.out _ (List.getElem_mem hq)
            unfold Am.byte at hx
            obtain ⟨x, hxx⟩ : ∃ x, x = D[q] := ⟨_, rfl⟩
            rw [← hxx] at hc hx
            have HX := Lib.hid hxx
            have eY : IntKind.u8.wrap x = x := by rw [IntKind.wrap_u8]; omega
            have hA := (hW.out.bl.alloc hW.out.bl.size (.cells #[.int .u8 x] 5))
            have HLA := Lib.hid (own_keep (w1 := wr.alloc (.cells #[.int .u8 x] 5)) hrow fun j hj => Below.heap_alloc wr _ j ((own_foot hrow hj).2.elim fun _ hb => hb.lt))
            have hsz := hW.out.bl.size
            have hle := en_le D q
            clear hxx hrow hA
            by_cases hx0 : x = 0
            · subst hx0
              go_wp2_with (first | (at_builtin; refine wpList_append_own_at _ rfl _ _ 32 rfl w.heap.size 5 i0 (.int .u8 0) 1 1 Tryd.underlying32 hi hz0 hz1 hz2 rfl (by decide) (.slice s5 q m5) q _ rfl HLA.out ⟨wr.heap.size, 0, none⟩ 1 1 [.int .u8 0] rfl rfl (one_new8 _ _ _) (by intro u hu; simp at hu; subst hu; rfl) (by unfold maxLen; omega) (by omega) (by simp; omega) ?_; intro v' w2 hown hgrow hxx hat; go_loud (obtain ⟨s6, m6, rfl⟩ := own_slice hown; have HNX := Lib.hid (hW.out.next hq (by rw [← HX.out]; exact hown) hgrow); have e1 : w2.cell? ⟨g, q, none⟩ = some (.int .i64 0) := (by rw [HX.out]; exact HNX.out.ri.at hq); clear hown hgrow hxx hat)))
              go_roundw
              case rel => exact ⟨q + 1, _, by omega, by go_num, by rw [en_zero hq HX.out.symm], rfl, HNX.out⟩
              case measure => simp [intOf]; omega
            · go_wp2_with (first | (at_builtin; refine wpList_append_own_at _ rfl _ _ 32 rfl w.heap.size 5 i0 (.int .u8 0) 1 1 Tryd.underlying32 hi hz0 hz1 hz2 rfl (by decide) (.slice s5 q m5) q _ rfl HLA.out ⟨wr.heap.size, 0, none⟩ 1 1 [.int .u8 x] rfl rfl (one_new8 _ _ _) (by intro u hu; simp at hu; subst hu; rfl) (by unfold maxLen; omega) (by omega) (by simp; omega) ?_; intro v' w2 hown hgrow hxx hat; go_loud (obtain ⟨s6, m6, rfl⟩ := own_slice hown; have HNX := Lib.hid (hW.out.next hq (by rw [← HX.out]; exact hown) hgrow); have e1 : w2.cell? ⟨g, q, none⟩ = some (.int .i64 x) := (by rw [HX.out]; exact HNX.out.ri.at hq); clear hown hgrow hxx hat)))
              go_roundw
              case rel => exact ⟨q + 1, _, by omega, by go_num, by rw [en_other hq (by rw [← HX.out]; exact hx0)]; go_num, rfl, HNX.out⟩
              case measure => simp [intOf]; omega
          · obtain rfl : q = N := by omega
            obtain ⟨g5, rfl, _, _, hg6, hg5⟩ := own_at hrow 0 (by omega)
            have hHP := holds_part hrow (en D q)
            have hcap : q ≤ m5 := by
              obtain ⟨hl5, s', m', he, _, ⟨hm5, _⟩, _⟩ := HoldsB.of_own hrow
              simp at he
              obtain ⟨_, hl6, rfl⟩ := he
              omega
            have hV3 := H.out.below hW.out.bl
            have hne : ¬ Fp wr a g5 := fun hf => by
              rcases fp_cases hV3.core.blk g5 hf with rfl | ⟨i, v, hv, hk2⟩
              · exact own_blk_ne hrow hV3.core.blk (by decide) rfl
              · match i, hv with
                | 0, hv => simp at hv; subst hv; obtain ⟨_, ds, hb⟩ := own_foot hV3.ps hk2; exact own_blk_ne hrow hb (by decide) rfl
                | 1, hv => simp at hv; subst hv; obtain ⟨_, ds, hb⟩ := own_foot hV3.lw hk2; exact own_blk_ne hrow hb (by decide) rfl
                | 2, hv => simp at hv; subst hv; simp [Value.ownBlock] at hk2
                | 3, hv => simp at hv; subst hv; simp [Value.ownBlock] at hk2
                | i + 4, hv => simp at hv
            have hlt5 : g5 < wr.heap.size := hg6.elim fun _ hb => hb.lt
            have hbg := vbegin_c wr B a _ _ P _ _ bg hV3
            have hle := en_le D q
            have HE : Hid (en D q = (Am.cw s).length ∧ (D.take q).take (en D q) = Am.cw s) := by
              have hD : D.take q = D := List.take_of_length_le (by omega)
              have e2 : en D q = (Am.cw s).length := by unfold en; rw [hD, HDt.out]
              exact ⟨e2, by rw [hD, e2, ← HDt.out]; exact (Am.trim_pre D).2.1.symm⟩
            have HHP := Lib.hid hHP
            have HNE := Lib.hid hne
            have HLT := Lib.hid hlt5
            have HG5 := Lib.hid hg5
            clear hHP hne hlt5 hg5 hg6 hV3 hrow
            generalize en D q = E at *
            go_wp2_with (first | (go_at_call 26; (with_reducible refine hbg.mono ?_); rintro e w4 ⟨rfl, hve, hkp⟩))
            go_ret
            obtain ⟨e1, e2⟩ := HE.out
            have hh := HHP.out
            rw [e2] at hh
            refine ⟨⟨g5, 0, none⟩, m5, by rw [e1]; rfl, holdsB_far hh (fun p hp => ?_), by rw [← e1]; show E ≤ m5; omega, HG5.out, hve, ?_⟩
            · obtain rfl : p = ⟨g5, 0, none⟩ := (Option.some.inj hp).symm
              exact hkp.block g5 HLT.out HNE.out
            · exact (Kp.of_below hW.out.bl H.out.core.lt).trans hkp
end Go.Proofs.YtdnfnekfcndnhaaDoor
