/-
  Layer 19: the statement DistortAdds on lists of one length.
-/
import Derived.Test.YtnmmgjbjnhiaoaaDoorDn19
import Derived.Deep.RegionHeld3
set_option maxRecDepth 100000
namespace Go.Proofs.YtnmmgjbjnhiaoaaDoor
open Go.RowKit

theorem own_drew9 {w : World} {base n z : Nat} {e : TypeId} {v : Value} {xs : List Value} (h : w.ownsRow base e z v n xs) : w.drew.ownsRow base e z v n xs := h
set_option maxHeartbeats 16000000 in
theorem adds_y (A B C : List Int) (n ma mb mc ba oa bb ob bc oc : Nat) (s d : Int) (at8 : Int) (W : World) (hA : HoldsI W (some ⟨ba, oa, none⟩) A) (hB : HoldsI W (some ⟨bb, ob, none⟩) B) (hC : HoldsI W (some ⟨bc, oc, none⟩) C) (nA : A.length = n) (nB : B.length = n) (nC : C.length = n) (hn0 : 0 < n) (hn : n ≤ 200) (ca : n ≤ ma) (cb : n ≤ mb) (cc : n ≤ mc) (hr : ∀ v ∈ B, i64R v) (hv : Qu.vB s d = true) (h8 : 0 ≤ at8 ∧ at8 ≤ 255) :
    Calls Tryd.prog 6 #[.agg #[.slice (some ⟨ba, oa, none⟩) n ma, .slice (some ⟨bb, ob, none⟩) n mb, .slice (some ⟨bc, oc, none⟩) n mc], .agg #[.int .i64 s, .int .i64 d], .int .u8 at8] W fun e w' => e = .returned (.bool true) ∧ Below W.heap.size W w' := by
  obtain ⟨M, hM⟩ : ∃ x, x = (W.alloc (.cells #[.slice (some ⟨ba, oa, none⟩) n ma, .slice (some ⟨bb, ob, none⟩) n mb, .slice (some ⟨bc, oc, none⟩) n mc] 30)).alloc (.cells #[.int .i64 s, .int .i64 d] 25) := ⟨_, rfl⟩
  have hMB : Below W.heap.size W M := by rw [hM]; exact below_alloc (below_alloc (Below.refl _ W) _) _
  have g1 : Blk M W.heap.size 30 #[.slice (some ⟨ba, oa, none⟩) n ma, .slice (some ⟨bb, ob, none⟩) n mb, .slice (some ⟨bc, oc, none⟩) n mc] := by rw [hM]; exact (Blk.new W _ _).alloc _
  have g2 : Blk M (W.heap.size + 1) 25 #[.int .i64 s, .int .i64 d] := by
    have := Blk.new (W.alloc (.cells #[.slice (some ⟨ba, oa, none⟩) n ma, .slice (some ⟨bb, ob, none⟩) n mb, .slice (some ⟨bc, oc, none⟩) n mc] 30)) 25 #[.int .i64 s, .int .i64 d]
    rw [hM]; simpa using this
  have gM : W.heap.size + 1 + 1 = M.heap.size := by rw [hM]; simp
  have ce : ∀ w1 : World, Below M.heap.size M w1 → w1.cell? ⟨W.heap.size, 0, none⟩ = some (.slice (some ⟨ba, oa, none⟩) n ma) ∧ w1.cell? ⟨W.heap.size, 1, none⟩ = some (.slice (some ⟨bb, ob, none⟩) n mb) ∧ w1.cell? ⟨W.heap.size, 2, none⟩ = some (.slice (some ⟨bc, oc, none⟩) n mc) ∧ w1.cell? ⟨W.heap.size + 1, 0, none⟩ = some (.int .i64 s) ∧ w1.cell? ⟨W.heap.size + 1, 1, none⟩ = some (.int .i64 d) := fun w1 hb => ⟨(g1.below hb).cell 0, (g1.below hb).cell 1, (g1.below hb).cell 2, (g2.below hb).cell 0, (g2.below hb).cell 1⟩
  have fa : ∀ w1 : World, Below M.heap.size M w1 → ∀ i, i < n → w1.cell? ⟨ba, oa + i, none⟩ = some (.int .i64 (A.getD i 0)) := fun w1 hb i hi => by
    have h9 := holdsI_at (hA.call (below_call hMB hb)) (k := i) (by omega)
    rw [h9]; simp [List.getD, show i < A.length by omega]
  have fb : ∀ w1 : World, Below M.heap.size M w1 → ∀ i, i < n → w1.cell? ⟨bb, ob + i, none⟩ = some (.int .i64 (B.getD i 0)) := fun w1 hb i hi => by
    have h9 := holdsI_at (hB.call (below_call hMB hb)) (k := i) (by omega)
    rw [h9]; simp [List.getD, show i < B.length by omega]
  have fc : ∀ w1 : World, Below M.heap.size M w1 → ∀ i, i < n → w1.cell? ⟨bc, oc + i, none⟩ = some (.int .i64 (C.getD i 0)) := fun w1 hb i hi => by
    have h9 := holdsI_at (hC.call (below_call hMB hb)) (k := i) (by omega)
    rw [h9]; simp [List.getD, show i < C.length by omega]
  have y0 := (ce M (Below.refl _ _)).1
  have y1 := (ce M (Below.refl _ _)).2.1
  have y2 := (ce M (Below.refl _ _)).2.2.1
  have y3 := (ce M (Below.refl _ _)).2.2.2.1
  have y4 := (ce M (Below.refl _ _)).2.2.2.2
  have HB := Lib.hid hMB
  have HM := Lib.hid hM
  have GM := Lib.hid gM
  have CE := Lib.hid ce
  have CA := Lib.hid fa
  have CB := Lib.hid fb
  have CC := Lib.hid fc
  have HR := Lib.hid hr
  have NA := Lib.hid nA
  have NB := Lib.hid nB
  have NC := Lib.hid nC
  have HN := Lib.hid hn
  have HN0 := Lib.hid hn0
  have H8 := Lib.hid h8
  have HV := Lib.hid hv
  have HH := Lib.hid (And.intro hA (And.intro hB hC))
  have HCP := Lib.hid (And.intro ca (And.intro cb cc))
  have kv := vd_r s d
  rw [hv] at kv
  have KE := Lib.hid ex19_c
  obtain ⟨i0, hi, hz0, hz1, hz2⟩ := info_parts infoI
  have t1 : ¬ (200 : Int) < (n : Int) := by omega
  have t2 : ((n : Int) != (n : Int)) = false := by simp
  rw [hM] at y0 y1 y2 y3 y4
  clear hMB hM g1 g2 gM ce fa fb fc hr nA nB nC hn hn0 h8 hv hA hB hC ca cb cc
  go_enter Tryd.func6, Tryd.ntmps6
  go_wp2_with (first | (go_at_call 16; (with_reducible refine (kv _).mono ?_); rintro e wn ⟨rfl, rfl⟩) | fail)
  rw [← HM.out]
  have A0 := Lib.hid (A3.new M GM.out)
  clear y0 y1 y2 y3 y4 kv t1 t2
  go_loopw [9, 10] (fun u k wr => ∃ (i : Nat) (va vb vc : Value), i ≤ n ∧ k = .int .i64 (i : Int) ∧ u = .int .i64 (suE A B C s d i) ∧ Hid (A3 M wr (W.heap.size + 1 + 1) (rvk A i) (rvk B i) (rvk C i) va vb vc) ∧ Hid (∀ j, j < i → msB (C.getD j 0))) (fun _ k _ => n - (intOf k).toNat)
  case atStart => exact ⟨0, _, _, _, Nat.zero_le _, rfl, rfl, A0.out, fun j hj => by omega⟩
  case round =>
    obtain ⟨i, va, vb, vc, hi9, rfl, rfl, HA, HMS⟩ := hrel
    by_cases hlt : i < n
    · have HLT := Lib.hid hlt
      obtain ⟨p, hp⟩ : ∃ p, p = n - 1 := ⟨_, rfl⟩
      obtain ⟨q, hq⟩ : ∃ q, q = n - 1 - i := ⟨_, rfl⟩
      have w1 : IntKind.i64.wrap ((n : Int) - 1) = (p : Int) := by have := HN.out; rw [IntWalk.i64_left]; unfold wrap64; omega
      have w2 : IntKind.i64.wrap ((p : Int) - (i : Int)) = (q : Int) := by have := HN.out; rw [IntWalk.i64_left]; unfold wrap64; omega
      have wi : IntKind.i64.wrap ((i : Int) + 1) = ((i + 1 : Nat) : Int) := by have := HN.out; rw [IntWalk.i64_left]; unfold wrap64; omega
      have HQ := Lib.hid (show q < n by omega)
      have pi1 : (0 : Int) ≤ (i : Int) := by omega
      have pi2 : (i : Int) < (n : Int) := by omega
      have pq1 : (0 : Int) ≤ (q : Int) := by omega
      have pq2 : (q : Int) < (n : Int) := by omega
      have LA := Lib.hid (show (rvk A i).length ≤ 200 by rw [rvk_len A i (by rw [NA.out]; omega)]; have := HN.out; omega)
      have LB := Lib.hid (show (rvk B i).length ≤ 200 by rw [rvk_len B i (by rw [NB.out]; omega)]; have := HN.out; omega)
      have LC := Lib.hid (show (rvk C i).length ≤ 200 by rw [rvk_len C i (by rw [NC.out]; omega)]; have := HN.out; omega)
      have RA := Lib.hid (show rvk A (i + 1) = rvk A i ++ [A.getD q 0] by have := rvk_next A i (by rw [NA.out]; exact hlt); rw [NA.out, ← hq] at this; exact this)
      have RB := Lib.hid (show rvk B (i + 1) = rvk B i ++ [B.getD q 0] by have := rvk_next B i (by rw [NB.out]; exact hlt); rw [NB.out, ← hq] at this; exact this)
      have RC := Lib.hid (show rvk C (i + 1) = rvk C i ++ [C.getD q 0] by have := rvk_next C i (by rw [NC.out]; exact hlt); rw [NC.out, ← hq] at this; exact this)
      have SN := Lib.hid (show suE A B C s d (i + 1) = suE A B C s d i + erI (A.getD i 0) (B.getD i 0) (C.getD i 0) s d * erI (A.getD i 0) (B.getD i 0) (C.getD i 0) s d from rfl)
      obtain ⟨xa, hxa⟩ : ∃ x, x = A.getD q 0 := ⟨_, rfl⟩
      obtain ⟨xb, hxb⟩ : ∃ x, x = B.getD q 0 := ⟨_, rfl⟩
      obtain ⟨xc, hxc⟩ : ∃ x, x = C.getD q 0 := ⟨_, rfl⟩
      rw [← hxa] at RA
      rw [← hxb] at RB
      rw [← hxc] at RC
      have EQA := Lib.hid hxa
      have EQB := Lib.hid hxb
      have EQC := Lib.hid hxc
      generalize rvk A i = rva at *
      generalize rvk B i = rvb at *
      generalize rvk C i = rvc at *
      obtain ⟨yc, hyc⟩ : ∃ x, x = C.getD i 0 := ⟨_, rfl⟩
      have EYC := Lib.hid hyc
      have zc := CC.out _ HA.out.be i hlt
      rw [← hyc] at zc
      obtain ⟨y0, y1, y2, y3, y4⟩ := CE.out _ HA.out.be
      clear hp hq hlt hxa hxb hxc hyc hi9
      by_cases g1 : yc < 0
      ·
        go_wp2_with (first | (go_at_call 11; (with_reducible refine (KE.out _).mono ?_); rintro e w9 ⟨rfl, hb9⟩; have B9 := Lib.hid (below_call (below_call HB.out HA.out.be) hb9); clear hb9) | fail)
        go_ret
        exact ⟨rfl, B9.out⟩
      · by_cases g2 : 60 < yc
        ·
          go_wp2_with (first | (go_at_call 11; (with_reducible refine (KE.out _).mono ?_); rintro e w9 ⟨rfl, hb9⟩; have B9 := Lib.hid (below_call (below_call HB.out HA.out.be) hb9); clear hb9) | fail)
          go_ret
          exact ⟨rfl, B9.out⟩
        · rename World => wc
          have GG := Lib.hid (show msB yc from ⟨by omega, by omega⟩)
          go_upto_region 12 with fail
          clear zc y0 y1 y2 y3 y4
          go_cut [77] from 77 to 86 (fun _ wx => ∃ va vb vc, Hid (A3 M wx (W.heap.size + 1 + 1) (rva ++ [xa]) rvb rvc va vb vc))
          case first =>
            have HOW := Lib.hid (fun X : Obj => own_below (own_drew9 HA.out.oa) ((Below.refl _ wc.drew).alloc (Nat.le_refl _) X))
            have HG := Lib.hid (fun (v' : Value) (X : Obj) (w2 : World) (ho : w2.ownsRow (W.heap.size + 1 + 1) 3 1 v' (rva.length + 1) (rva.map (Value.int .i64) ++ [.int .i64 xa])) (hg : (wc.drew.alloc X).grownBy w2 va.ownBlock) (hat : v'.ownBlock = va.ownBlock ∨ v'.ownBlock = some (wc.drew.heap.size + 1)) => (HA.out.call (Below.refl _ _).drew).s0 ho hg hat)
            have cg := (HA.out.bx.drew).cell 0
            have cga := fun X : Obj => cell_alloc (show wc.cell? ⟨W.heap.size + 1 + 1, 0, none⟩ = some va from HA.out.bx.cell 0) X
            obtain ⟨y0, y1, y2, y3, y4⟩ := CE.out _ HA.out.be
            have z0 := CA.out _ HA.out.be q HQ.out
            have hbz : W.heap.size + 1 + 1 ≤ wc.heap.size := by have := HA.out.be.size; have := HA.out.gz; omega
            have hl7 : rva.length ≤ 200 := LA.out
            have HXV := Lib.hid EQA.out
            rw [← EQA.out] at z0
            have ya0 := fun X : Obj => cell_alloc y0 X
            have za0 := fun X : Obj => cell_alloc z0 X
            go_region_law (first | (refine step_append_at rfl (.tmp 78) (.tmp 84) 28 rfl (W.heap.size + 1 + 1) 3 i0 (.int .i64 0) 1 8 Tryd.underlying28 hi hz0 hz1 hz2 rfl (by decide) va rva.length _ rfl (HOW.out _) ⟨wc.heap.size, 0, none⟩ 1 1 [.int .i64 xa] rfl rfl (cell_one_new _ _ _) (by intro u hu; simp at hu; subst hu; rfl) (by unfold maxLen; omega) (by omega) (by simp; have h2 : wc.drew.heap.size = wc.heap.size := rfl; omega) ?_; intro v' w2 hown hgrow hat; obtain ⟨s6, m6, rfl⟩ := own_slice hown; obtain ⟨p2, d1, d2⟩ := HG.out _ _ _ hown hgrow (by simpa using hat); have P2 := Lib.hid p2; clear p2 hown hgrow hat; go_wp2_with fail) | fail)
            all_goals
              go_wp2_with fail
              go_meet
              exact ⟨_, _, _, P2.out⟩
          case rest =>
            obtain ⟨va, vb, vc, HA⟩ := hcut
            rename World => wc
            go_upto_region 13 with fail
            go_cut [87] from 87 to 96 (fun _ wx => ∃ va vb vc, Hid (A3 M wx (W.heap.size + 1 + 1) (rva ++ [xa]) (rvb ++ [xb]) rvc va vb vc))
            case first =>
              have HOW := Lib.hid (fun X : Obj => own_below (own_drew9 HA.out.ob) ((Below.refl _ wc.drew).alloc (Nat.le_refl _) X))
              have HG := Lib.hid (fun (v' : Value) (X : Obj) (w2 : World) (ho : w2.ownsRow (W.heap.size + 1 + 1) 3 1 v' (rvb.length + 1) (rvb.map (Value.int .i64) ++ [.int .i64 xb])) (hg : (wc.drew.alloc X).grownBy w2 vb.ownBlock) (hat : v'.ownBlock = vb.ownBlock ∨ v'.ownBlock = some (wc.drew.heap.size + 1)) => (HA.out.call (Below.refl _ _).drew).s1 ho hg hat)
              have cg := (HA.out.bx.drew).cell 1
              have cga := fun X : Obj => cell_alloc (show wc.cell? ⟨W.heap.size + 1 + 1, 1, none⟩ = some vb from HA.out.bx.cell 1) X
              obtain ⟨y0, y1, y2, y3, y4⟩ := CE.out _ HA.out.be
              have z1 := CB.out _ HA.out.be q HQ.out
              have hbz : W.heap.size + 1 + 1 ≤ wc.heap.size := by have := HA.out.be.size; have := HA.out.gz; omega
              have hl7 : rvb.length ≤ 200 := LB.out
              have HXV := Lib.hid EQB.out
              rw [← EQB.out] at z1
              have ya1 := fun X : Obj => cell_alloc y1 X
              have za1 := fun X : Obj => cell_alloc z1 X
              go_region_law (first | (refine step_append_at rfl (.tmp 88) (.tmp 94) 28 rfl (W.heap.size + 1 + 1) 3 i0 (.int .i64 0) 1 8 Tryd.underlying28 hi hz0 hz1 hz2 rfl (by decide) vb rvb.length _ rfl (HOW.out _) ⟨wc.heap.size, 0, none⟩ 1 1 [.int .i64 xb] rfl rfl (cell_one_new _ _ _) (by intro u hu; simp at hu; subst hu; rfl) (by unfold maxLen; omega) (by omega) (by simp; have h2 : wc.drew.heap.size = wc.heap.size := rfl; omega) ?_; intro v' w2 hown hgrow hat; obtain ⟨s6, m6, rfl⟩ := own_slice hown; obtain ⟨p2, d1, d2⟩ := HG.out _ _ _ hown hgrow (by simpa using hat); have P2 := Lib.hid p2; clear p2 hown hgrow hat; go_wp2_with fail) | fail)
              all_goals
                go_wp2_with fail
                go_meet
                exact ⟨_, _, _, P2.out⟩
            case rest =>
              obtain ⟨va, vb, vc, HA⟩ := hcut
              rename World => wc
              go_upto_region 14 with fail
              go_cut [97] from 97 to 106 (fun _ wx => ∃ va vb vc, Hid (A3 M wx (W.heap.size + 1 + 1) (rva ++ [xa]) (rvb ++ [xb]) (rvc ++ [xc]) va vb vc))
              case first =>
                have HOW := Lib.hid (fun X : Obj => own_below (own_drew9 HA.out.oc) ((Below.refl _ wc.drew).alloc (Nat.le_refl _) X))
                have HG := Lib.hid (fun (v' : Value) (X : Obj) (w2 : World) (ho : w2.ownsRow (W.heap.size + 1 + 1) 3 1 v' (rvc.length + 1) (rvc.map (Value.int .i64) ++ [.int .i64 xc])) (hg : (wc.drew.alloc X).grownBy w2 vc.ownBlock) (hat : v'.ownBlock = vc.ownBlock ∨ v'.ownBlock = some (wc.drew.heap.size + 1)) => (HA.out.call (Below.refl _ _).drew).s2 ho hg hat)
                have cg := (HA.out.bx.drew).cell 2
                have cga := fun X : Obj => cell_alloc (show wc.cell? ⟨W.heap.size + 1 + 1, 2, none⟩ = some vc from HA.out.bx.cell 2) X
                obtain ⟨y0, y1, y2, y3, y4⟩ := CE.out _ HA.out.be
                have z2 := CC.out _ HA.out.be q HQ.out
                have hbz : W.heap.size + 1 + 1 ≤ wc.heap.size := by have := HA.out.be.size; have := HA.out.gz; omega
                have hl7 : rvc.length ≤ 200 := LC.out
                have HXV := Lib.hid EQC.out
                rw [← EQC.out] at z2
                have ya2 := fun X : Obj => cell_alloc y2 X
                have za2 := fun X : Obj => cell_alloc z2 X
                go_region_law (first | (refine step_append_at rfl (.tmp 98) (.tmp 104) 28 rfl (W.heap.size + 1 + 1) 3 i0 (.int .i64 0) 1 8 Tryd.underlying28 hi hz0 hz1 hz2 rfl (by decide) vc rvc.length _ rfl (HOW.out _) ⟨wc.heap.size, 0, none⟩ 1 1 [.int .i64 xc] rfl rfl (cell_one_new _ _ _) (by intro u hu; simp at hu; subst hu; rfl) (by unfold maxLen; omega) (by omega) (by simp; have h2 : wc.drew.heap.size = wc.heap.size := rfl; omega) ?_; intro v' w2 hown hgrow hat; obtain ⟨s6, m6, rfl⟩ := own_slice hown; obtain ⟨p2, d1, d2⟩ := HG.out _ _ _ hown hgrow (by simpa using hat); have P2 := Lib.hid p2; clear p2 hown hgrow hat; go_wp2_with fail) | fail)
                all_goals
                  go_wp2_with fail
                  go_meet
                  exact ⟨_, _, _, P2.out⟩
              case rest =>
                obtain ⟨va, vb, vc, HA⟩ := hcut
                rename World => wc
                obtain ⟨y0, y1, y2, y3, y4⟩ := CE.out _ HA.out.be
                have za := CA.out _ HA.out.be i HLT.out
                have zb := CB.out _ HA.out.be i HLT.out
                have zc := CC.out _ HA.out.be i HLT.out
                rw [← EYC.out] at zc
                have SN2 := SN.out
                rw [← EYC.out] at SN2
                have hin := er_in (A.getD i 0) (B.getD i 0) yc s d
                have hrb := HR.out (B.getD i 0) (mem_getD B i (by rw [NB.out]; exact HLT.out))
                have kr := fun w : World => derror_c (A.getD i 0) (B.getD i 0) yc s d w hrb
                have hsu := suE_in A B C s d i
                generalize A.getD i 0 = ea at *
                generalize B.getD i 0 = eb at *
                generalize suE A B C s d i = su at *
                generalize erI ea eb yc s d = e0 at *
                obtain ⟨sq, hsq⟩ : ∃ x, x = e0 * e0 := ⟨_, rfl⟩
                have hs1 := sq_in e0 hin.1 hin.2
                have wq : IntKind.i64.wrap (e0 * e0) = sq := by rw [hsq, IntWalk.i64_left]; unfold wrap64; omega
                have ws : IntKind.i64.wrap (su + sq) = su + sq := by have := HN.out; have := HLT.out; rw [hsq, IntWalk.i64_left]; unfold wrap64; omega
                have e1 : ¬ e0 < 0 := by omega
                have e2 : ¬ 32767 < e0 := by omega
                rw [← hsq] at SN2
                have SN3 := Lib.hid SN2
                clear hin hrb hsu hs1 hsq SN2 g1 g2
                have G12 := Lib.hid (show msB yc from GG.out)
                go_wp2_with fail
                go_quiet ((go_at_call 12; exact Calls.quiet_of_same (kr _)))
                go_wp2_with fail
                go_roundw
                case rel => exact ⟨i + 1, _, _, _, HLT.out, by go_num, by rw [SN3.out], by rw [RA.out, RB.out, RC.out]; exact HA.out.call (drewN_below _ _), fun j hj => by
                  by_cases hj2 : j = i
                  · rw [hj2, ← EYC.out]; exact G12.out
                  · exact HMS.out j (by omega)⟩
                case measure => have := HLT.out; simp [intOf]; omega
    · obtain rfl : n = i := by omega
      rename World => wc
      have HAL := Lib.hid (show AllM C from fun j hj => HMS.out j (by rw [NC.out] at hj; exact hj))
      obtain ⟨su, hsu⟩ : ∃ x, x = suE A B C s d n := ⟨_, rfl⟩
      rw [← hsu]
      have hT : ∀ (w1 : World), Below M.heap.size M w1 → ∀ wt : Int, 0 ≤ wt ∧ wt ≤ 16 → Calls Tryd.prog 14 #[.slice (some ⟨ba, oa, none⟩) n ma, .slice (some ⟨bb, ob, none⟩) n mb, .slice (some ⟨bc, oc, none⟩) n mc, .int .i64 s, .int .i64 d, .int .i64 wt] w1 fun e w' => e = .returned (.tuple #[.int .i64 (wt * su), .int .i64 0]) ∧ Below w1.heap.size w1 w' := fun w1 hb wt hw => by
        have hh := below_call HB.out hb
        have k := dtotal_c A B C _ _ _ n n n ma mb mc s d wt w1 (HH.out.1.call hh) (HH.out.2.1.call hh) (HH.out.2.2.call hh) NA.out.symm NB.out.symm NC.out.symm HR.out
        obtain ⟨t1, t2⟩ := to_ok (A := A) (B := B) (C := C) (s := s) (d := d) (w := wt) (by rw [NB.out, NA.out]) (by rw [NC.out, NA.out]) (by rw [NA.out]; have := HN.out; omega) HV.out hw HAL.out
        rw [t1, t2, NA.out, ← hsu] at k
        exact k
      have h1 : ∀ (w1 : World), Below M.heap.size M w1 → Calls Tryd.prog 14 #[.slice (some ⟨ba, oa, none⟩) n ma, .slice (some ⟨bb, ob, none⟩) n mb, .slice (some ⟨bc, oc, none⟩) n mc, .int .i64 s, .int .i64 d, .int .i64 1] w1 fun e w' => e = .returned (.tuple #[.int .i64 su, .int .i64 0]) ∧ Below w1.heap.size w1 w' := fun w1 hb => by
        have k := hT w1 hb 1 (by decide)
        rw [Int.one_mul] at k
        exact k
      have ea : (rvk A n).length = n := rvk_len A n (by rw [NA.out]; exact Nat.le_refl _)
      have eb : (rvk B n).length = n := rvk_len B n (by rw [NB.out]; exact Nat.le_refl _)
      have ec : (rvk C n).length = n := rvk_len C n (by rw [NC.out]; exact Nat.le_refl _)
      obtain ⟨sa, xa, hva⟩ := own_slice HA.out.oa
      obtain ⟨sb, xb, hvb⟩ := own_slice HA.out.ob
      obtain ⟨sc, xc, hvc⟩ := own_slice HA.out.oc
      rw [ea] at hva
      rw [eb] at hvb
      rw [ec] at hvc
      subst hva hvb hvc
      have hB : ∀ w1 : World, Below wc.heap.size wc w1 → Calls Tryd.prog 14 #[.slice sa n xa, .slice sb n xb, .slice sc n xc, .int .i64 s, .int .i64 d, .int .i64 1] w1 fun e w' => e = .returned (.tuple #[.int .i64 su, .int .i64 0]) ∧ Below w1.heap.size w1 w' := fun w1 hb => by
        have r1 : rvk A n = A.reverse := by have := rvk_all A; rw [NA.out] at this; exact this
        have r2 : rvk B n = B.reverse := by have := rvk_all B; rw [NB.out] at this; exact this
        have r3 : rvk C n = C.reverse := by have := rvk_all C; rw [NC.out] at this; exact this
        have q1 : HoldsI wc sa A.reverse := by have h := HA.out.oa; rw [ea] at h; rw [← r1]; exact (own_holds h).2
        have q2 : HoldsI wc sb B.reverse := by have h := HA.out.ob; rw [eb] at h; rw [← r2]; exact (own_holds h).2
        have q3 : HoldsI wc sc C.reverse := by have h := HA.out.oc; rw [ec] at h; rw [← r3]; exact (own_holds h).2
        have k := dtotal_c A.reverse B.reverse C.reverse _ _ _ n n n xa xb xc s d 1 w1 (q1.call hb) (q2.call hb) (q3.call hb) (by simp [NA.out]) (by simp [NB.out]) (by simp [NC.out]) (by intro v hv; exact HR.out v (by simpa using hv))
        obtain ⟨t1, t2⟩ := to_ok (A := A.reverse) (B := B.reverse) (C := C.reverse) (s := s) (d := d) (w := 1) (by simp [NA.out, NB.out]) (by simp [NA.out, NC.out]) (by simp [NA.out]; have := HN.out; omega) HV.out (by decide) (allM_mem.2 fun x hx => allM_mem.1 HAL.out x (by simpa using hx))
        rw [t1, t2, Int.one_mul, List.length_reverse, NA.out, suE_rev s d NA.out NB.out NC.out, ← hsu] at k
        exact k
      obtain ⟨kk, hk1, hk2⟩ : ∃ kk : Nat, kk ≤ n ∧ at8.tmod ((n + 1 : Nat) : Int) = (kk : Int) := by
        have h8 := H8.out
        have e1 := Int.tmod_eq_emod_of_nonneg (a := at8) (b := ((n + 1 : Nat) : Int)) h8.1
        have e2 := Int.emod_nonneg at8 (b := ((n + 1 : Nat) : Int)) (by omega)
        have e3 := Int.emod_lt_of_pos at8 (b := ((n + 1 : Nat) : Int)) (by omega)
        exact ⟨(at8 % ((n + 1 : Nat) : Int)).toNat, by omega, by rw [e1]; omega⟩
      have w8 : IntKind.i64.wrap at8 = at8 := by have := H8.out; rw [IntWalk.i64_left]; unfold wrap64; omega
      have wn : IntKind.i64.wrap ((n : Int) + 1) = ((n + 1 : Nat) : Int) := by have := HN.out; rw [IntWalk.i64_left]; unfold wrap64; omega
      have wk : IntKind.i64.wrap (kk : Int) = (kk : Int) := by have := HN.out; rw [IntWalk.i64_left]; unfold wrap64; omega
      have z8 : (((n + 1 : Nat) : Int) == 0) = false := by simp; omega
      have s1 : (su != su) = false := by simp
      obtain ⟨y0, y1, y2, y3, y4⟩ := CE.out _ HA.out.be
      have K1 := Lib.hid (h1 wc HA.out.be)
      have KB := Lib.hid hB
      have KT := Lib.hid hT
      obtain ⟨sv1, hsv1⟩ : ∃ x, x = suE (A.take kk) (B.take kk) (C.take kk) s d kk := ⟨_, rfl⟩
      obtain ⟨sv2, hsv2⟩ : ∃ x, x = suE (A.drop kk) (B.drop kk) (C.drop kk) s d (n - kk) := ⟨_, rfl⟩
      have hsv : sv1 + sv2 = su := by have h := suE_split A B C s d kk (n - kk); rw [← hsv1, ← hsv2, show kk + (n - kk) = n by omega, ← hsu] at h; exact h
      have h3 : ∀ w1 : World, Below M.heap.size M w1 → Calls Tryd.prog 14 #[.slice (some ⟨ba, oa, none⟩) kk ma, .slice (some ⟨bb, ob, none⟩) kk mb, .slice (some ⟨bc, oc, none⟩) kk mc, .int .i64 s, .int .i64 d, .int .i64 1] w1 fun e w' => e = .returned (.tuple #[.int .i64 sv1, .int .i64 0]) ∧ Below w1.heap.size w1 w' := fun w1 hb => by
        have tk : ∀ {b o : Nat} {l : List Int}, HoldsI w1 (some ⟨b, o, none⟩) l → HoldsI w1 (some ⟨b, o, none⟩) (l.take kk) := fun {b o l} h => by
          rcases h with h | ⟨b', o', e, h⟩
          · left; rw [h]; simp
          · refine .inr ⟨b', o', e, fun j hj => ?_⟩
            rw [List.getElem_take]
            exact h j (by simp at hj; omega)
        have hh := below_call HB.out hb
        have nA := NA.out
        have nB := NB.out
        have nC := NC.out
        have k := dtotal_c (A.take kk) (B.take kk) (C.take kk) _ _ _ kk kk kk ma mb mc s d 1 w1 (tk (HH.out.1.call hh)) (tk (HH.out.2.1.call hh)) (tk (HH.out.2.2.call hh)) (by simp; omega) (by simp; omega) (by simp; omega) (fun v hv => HR.out v (List.mem_of_mem_take hv))
        obtain ⟨t1, t2⟩ := to_ok (A := A.take kk) (B := B.take kk) (C := C.take kk) (s := s) (d := d) (w := 1) (by simp; omega) (by simp; omega) (by simp; have := HN.out; omega) HV.out (by decide) (allM_mem.2 fun x hx => allM_mem.1 HAL.out x (List.mem_of_mem_take hx))
        rw [t1, t2, Int.one_mul, show (A.take kk).length = kk by simp; omega, ← hsv1] at k
        exact k
      obtain ⟨pa, hpa⟩ : ∃ x : Option Addr, (if ma = kk then some ⟨ba, oa, none⟩ else some ⟨ba, oa + kk, none⟩) = x := ⟨_, rfl⟩
      obtain ⟨pb, hpb⟩ : ∃ x : Option Addr, (if mb = kk then some ⟨bb, ob, none⟩ else some ⟨bb, ob + kk, none⟩) = x := ⟨_, rfl⟩
      obtain ⟨pc, hpc⟩ : ∃ x : Option Addr, (if mc = kk then some ⟨bc, oc, none⟩ else some ⟨bc, oc + kk, none⟩) = x := ⟨_, rfl⟩
      have h4 : ∀ w1 : World, Below M.heap.size M w1 → Calls Tryd.prog 14 #[.slice pa (n - kk) (ma - kk), .slice pb (n - kk) (mb - kk), .slice pc (n - kk) (mc - kk), .int .i64 s, .int .i64 d, .int .i64 1] w1 fun e w' => e = .returned (.tuple #[.int .i64 sv2, .int .i64 0]) ∧ Below w1.heap.size w1 w' := fun w1 hb => by
        have tk : ∀ {b o : Nat} {l : List Int}, HoldsI w1 (some ⟨b, o, none⟩) l → HoldsI w1 (some ⟨b, o + kk, none⟩) (l.drop kk) := fun {b o l} h => by
          rcases h with h | ⟨b', o', e, h⟩
          · left; rw [h]; simp
          · simp at e
            obtain ⟨rfl, rfl⟩ := e
            refine .inr ⟨_, _, rfl, fun j hj => ?_⟩
            rw [List.getElem_drop, Nat.add_assoc]
            exact h (kk + j) (by simp at hj; omega)
        have ti : ∀ {b o : Nat} {l : List Int} (m : Nat), n ≤ m → l.length = n → HoldsI w1 (some ⟨b, o, none⟩) l → HoldsI w1 (if m = kk then some ⟨b, o, none⟩ else some ⟨b, o + kk, none⟩) (l.drop kk) := fun {b o l} m hm hl h => by
          by_cases e : m = kk
          · left; exact List.drop_eq_nil_of_le (by omega)
          · rw [if_neg e]; exact tk h
        have hh := below_call HB.out hb
        have nA := NA.out
        have nB := NB.out
        have nC := NC.out
        have k := dtotal_c (A.drop kk) (B.drop kk) (C.drop kk) pa pb pc (n - kk) (n - kk) (n - kk) (ma - kk) (mb - kk) (mc - kk) s d 1 w1 (by rw [← hpa]; exact ti ma (by have := HCP.out; omega) (by omega) (HH.out.1.call hh)) (by rw [← hpb]; exact ti mb (by have := HCP.out; omega) (by omega) (HH.out.2.1.call hh)) (by rw [← hpc]; exact ti mc (by have := HCP.out; omega) (by omega) (HH.out.2.2.call hh)) (by simp; omega) (by simp; omega) (by simp; omega) (fun v hv => HR.out v (List.mem_of_mem_drop hv))
        obtain ⟨t1, t2⟩ := to_ok (A := A.drop kk) (B := B.drop kk) (C := C.drop kk) (s := s) (d := d) (w := 1) (by simp; omega) (by simp; omega) (by simp; have := HN.out; omega) HV.out (by decide) (allM_mem.2 fun x hx => allM_mem.1 HAL.out x (List.mem_of_mem_drop hx))
        rw [t1, t2, Int.one_mul, show (A.drop kk).length = n - kk by simp; omega, ← hsv2] at k
        exact k
      have K3 := Lib.hid h3
      have K4 := Lib.hid h4
      have HSV := Lib.hid hsv
      clear h3 h4 hsv1 hsv2 hsv
      have HSU := Lib.hid hsu
      have HK := Lib.hid hk1
      clear hT h1 hB ea eb ec hsu HMS hi9 hlt
      obtain ⟨nn, hnn⟩ : ∃ x, x = n + 1 := ⟨_, rfl⟩
      rw [← hnn] at hk2 wn z8
      have znn : ¬ nn = 0 := by omega
      clear hnn hk1
      go_wp2_with (first
        | (go_at_call 14; (with_reducible refine K1.out.mono ?_); rintro e w1 ⟨rfl, hb⟩; have B1 := Lib.hid hb; obtain ⟨y0, y1, y2, y3, y4⟩ := CE.out _ (below_call HA.out.be hb); have c0 := (HA.out.bx.below hb).cell 0; have c1 := (HA.out.bx.below hb).cell 1; have c2 := (HA.out.bx.below hb).cell 2; clear hb)
        | (go_at_call 14; (with_reducible refine (KB.out _ B1.out).mono ?_); rintro e w2 ⟨rfl, hb⟩; have B2 := Lib.hid (below_call (below_call HA.out.be B1.out) hb); obtain ⟨y0, y1, y2, y3, y4⟩ := CE.out _ B2.out; clear hb)
        | fail)
      clear c0 c1 c2 y0 y1 y2 y3 y4
      have z0 := CE.out w2.drew (below_call B2.out (Below.refl _ _).drew)
      have k3 := K3.out w2.drew (below_call B2.out (Below.refl _ _).drew)
      have pk1 : (0 : Int) ≤ (kk : Int) := by omega
      have pka : (kk : Int) ≤ (ma : Int) := by have := HCP.out; have := HK.out; omega
      have pkb : (kk : Int) ≤ (mb : Int) := by have := HCP.out; have := HK.out; omega
      have pkc : (kk : Int) ≤ (mc : Int) := by have := HCP.out; have := HK.out; omega
      have pkn : (kk : Int) ≤ (n : Int) := by have := HK.out; omega
      have pna : (n : Int) ≤ (ma : Int) := by have := HCP.out; omega
      have pnb : (n : Int) ≤ (mb : Int) := by have := HCP.out; omega
      have pnc : (n : Int) ≤ (mc : Int) := by have := HCP.out; omega
      go_region_held3 (fun w' => w'.cell? ⟨W.heap.size, 0, none⟩ = some (.slice (some ⟨ba, oa, none⟩) n ma) ∧ w'.cell? ⟨W.heap.size, 1, none⟩ = some (.slice (some ⟨bb, ob, none⟩) n mb) ∧ w'.cell? ⟨W.heap.size, 2, none⟩ = some (.slice (some ⟨bc, oc, none⟩) n mc) ∧ w'.cell? ⟨W.heap.size + 1, 0, none⟩ = some (.int .i64 s) ∧ w'.cell? ⟨W.heap.size + 1, 1, none⟩ = some (.int .i64 d))
        (first | (with_reducible exact z0) | (with_reducible exact z1) | fail)
        (first | (go_simp; go_at_call 14; (with_reducible refine k3.mono ?_); rintro e w3 ⟨rfl, hb3⟩; have B3 := Lib.hid (below_call (below_call B2.out (Below.refl _ _).drew) hb3); have z1 := CE.out _ B3.out; clear hb3) | fail)
      clear z0 z1 k3 B1 K1 KB K3
      go_wp2_with fail
      have z2 := CE.out w3.drew (below_call B3.out (Below.refl _ _).drew)
      have k4 := K4.out w3.drew (below_call B3.out (Below.refl _ _).drew)
      go_region_held3 (fun w' => w'.cell? ⟨W.heap.size, 0, none⟩ = some (.slice (some ⟨ba, oa, none⟩) n ma) ∧ w'.cell? ⟨W.heap.size, 1, none⟩ = some (.slice (some ⟨bb, ob, none⟩) n mb) ∧ w'.cell? ⟨W.heap.size, 2, none⟩ = some (.slice (some ⟨bc, oc, none⟩) n mc) ∧ w'.cell? ⟨W.heap.size + 1, 0, none⟩ = some (.int .i64 s) ∧ w'.cell? ⟨W.heap.size + 1, 1, none⟩ = some (.int .i64 d))
        (first | (with_reducible exact z2) | (with_reducible exact z3) | fail)
        (first | (go_simp; go_at_call 14; (with_reducible refine k4.mono ?_); rintro e w4 ⟨rfl, hb4⟩; have B4 := Lib.hid (below_call (below_call B3.out (Below.refl _ _).drew) hb4); have z3 := CE.out _ B4.out; clear hb4) | fail)
      obtain ⟨y0, y1, y2, y3, y4⟩ := z3
      have hsin := suE_in A B C s d n
      rw [← HSU.out] at hsin
      obtain ⟨ww, hww, hw2⟩ : ∃ ww : Int, at8.tmod 17 = ww ∧ 0 ≤ ww ∧ ww ≤ 16 := by
        have h8 := H8.out
        have e1 := Int.tmod_eq_emod_of_nonneg (a := at8) (b := 17) h8.1
        exact ⟨_, e1, by omega, by omega⟩
      have hmu := muls_w (k := n) ww hsin (by have := HN.out; omega) hw2
      have kw := KT.out w4 B4.out ww hw2
      obtain ⟨pr, hpr⟩ : ∃ x, x = ww * su := ⟨_, rfl⟩
      rw [← hpr] at kw hmu
      have wpr : IntKind.i64.wrap (ww * su) = pr := by rw [← hpr, IntWalk.i64_left]; unfold wrap64; omega
      have wsu : IntKind.i64.wrap (sv1 + sv2) = su := by have := HN.out; rw [HSV.out, IntWalk.i64_left]; unfold wrap64; omega
      have www : IntKind.i64.wrap ww = ww := by rw [IntWalk.i64_left]; unfold wrap64; omega
      have s2 : (su == su) = true := by simp
      have s3 : (pr == pr) = true := by simp
      clear hsin hmu hpr hw2 z2 k4 K4 pk1 pka pkb pkc pkn pna pnb pnc
      go_wp2_with (first
        | (go_at_call 14; (with_reducible refine kw.mono ?_); rintro e w5 ⟨rfl, hb5⟩; have B5 := Lib.hid (below_call B4.out hb5); clear hb5)
        | (go_at_call 11; (with_reducible refine (KE.out _).mono ?_); rintro e w9 ⟨rfl, hb9⟩; have B9 := Lib.hid (below_call HB.out (below_call B5.out hb9)); clear hb9)
        | fail)
      go_ret
      exact ⟨rfl, B9.out⟩
end Go.Proofs.YtnmmgjbjnhiaoaaDoor
