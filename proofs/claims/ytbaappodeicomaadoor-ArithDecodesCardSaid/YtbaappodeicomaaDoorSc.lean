/-
  Layer 11, the reference's decoder: Start.
-/
import Derived.Test.YtbaappodeicomaaDoorSb
import Derived.Test.YtbaappodeicomaaDoorTv
set_option maxRecDepth 100000
namespace Go.Proofs.YtbaappodeicomaaDoor
open Go.RowKit

theorem SdC.data {w w1 : World} {B a t : Nat} {pv dv dv' : Value} {P D D' : List Int} {v rg : Int} {bg : Bool} (h : SdC w B a pv dv P D t v rg bg) (hb : Below w.heap.size w w1) (ho : w1.ownsRow w.heap.size 5 1 dv' D'.length (D'.map (Value.int .u8))) :
    SdC (w1.setCell ⟨a, 1, none⟩ dv') B a pv dv' P D' t v rg bg ∧ Kp a w (w1.setCell ⟨a, 1, none⟩ dv') := by
  have h1 := h.below hb
  have hne : dv'.ownBlock ≠ some a := own_blk_ne ho h1.core.blk (by decide)
  have hBw : B ≤ w.heap.size := Nat.le_trans h.core.ge (Nat.le_of_lt h.core.lt)
  have b := h1.core.blk.set 1 dv'
  simp at b
  have O1 := own_lower (own_far ho ⟨a, 1, none⟩ dv' hne) hBw
  have O2 := own_far h1.ps ⟨a, 1, none⟩ dv' h1.pa.1
  exact ⟨⟨core_rows h.core.ge b rfl rfl (rest6 rfl rfl rfl rfl) (by decide) (by decide) O2 O1, O2, O1⟩, (Kp.of_below hb h.core.lt).put h1.core.lt _ fun k hk => .inr (own_foot ho hk).1⟩
/-- After Start of the reference's decoder. -/
def SStarted (B a : Nat) (P D : List Int) (w : World) (e : Ending) (w' : World) : Prop := e = .returned (.int .i64 0) ∧ Sds w' B a (P, Am.St.init) D ∧ Kp a w w'
set_option maxHeartbeats 2000000 in
theorem sstart_c (w : World) (B a t m : Nat) (pv dv : Value) (s : Option Addr) (P D0 D : List Int) (v rg : Int) (bg : Bool) (h : SdC w B a pv dv P D0 t v rg bg) (h1 : 1 ≤ P.length) (hH : HoldsB w s D) (hs : s = none → D = [] ∧ m = 0) (hD : Am.bytes D) (hl : D.length ≤ 1000000) :
    Calls Tryd.prog 35 #[.pointer (some ⟨a, 0, none⟩), .slice s D.length m] w (SStarted B a P D w) := by
  obtain ⟨c0, c1, c2, c3, c4, c5⟩ := h.cells
  have f := h.core.blk.free
  obtain ⟨sp, mp, rfl⟩ := own_slice h.ps
  obtain ⟨i0, hi, hz0, hz1, hz2⟩ := info_parts info8
  have H := Lib.hid h
  have hp := fun W => ptrSn W ⟨a, 0, none⟩
  have HDB := Lib.hid hD
  have HA := Lib.hid (fun X => (Below.refl w.heap.size w).alloc (Nat.le_refl _) X)
  have HHD := Lib.hid hH
  have HSN := Lib.hid hs
  clear h hD hH hs
  go_enter Tryd.func35, Tryd.ntmps35
  go_upto_region 3 with fail
  go_cut [] (fun wx => ∃ dv', Hid (SdC wx B a (.slice sp P.length mp) dv' P D 0 0 rg bg ∧ Kp a w wx))
  case first =>
    cases s with
    | none =>
      obtain ⟨rfl, rfl⟩ := HSN.out rfl
      have HO := Lib.hid (World.ownsRow_made w #[] 0 (Nat.le_refl _) (by decide : (0:Nat) ≤ maxLen) (by simp) : (w.alloc (.cells #[] 5)).ownsRow w.heap.size 5 1 (.slice (some ⟨w.heap.size, 0, none⟩) 0 0) 0 [])
      obtain ⟨W0, hW0⟩ : ∃ W0, W0 = w.alloc (.cells #[] 5) := ⟨_, rfl⟩
      have X0 := H.out.below (HA.out (.cells #[] 5))
      rw [← hW0] at X0
      obtain ⟨_, k1, k2, k3, _, _⟩ := X0.cells
      have kf := X0.core.blk.free
      rw [hW0] at k1 k2 k3 kf
      clear hW0 X0 c1 c2 c3 f
      go_wp2_with (first | (at_builtin; refine wpList_append_own_none rfl _ _ 34 rfl w.heap.size 5 i0 1 Tryd.underlying34 hi _ 0 [] rfl HO.out rfl ?_))
      go_meet
      have E1 := H.out.data (D' := []) (HA.out (.cells #[] 5)) HO.out
      have E2 := E1.1.setAt 0
      have E3 := E2.1.setVal 0
      exact ⟨_, E3.1, (E1.2.trans E2.2).trans E3.2⟩
    | some p =>
      have HN := Lib.hid (fun X => holdsB_list (HHD.out.call (HA.out X)))
      go_wp2_with (first | (at_builtin; refine wpList_append_own_at _ rfl _ _ 34 rfl w.heap.size 5 i0 (.int .u8 0) 1 1 Tryd.underlying34 hi hz0 hz1 hz2 rfl (by decide) _ 0 [] rfl (World.ownsRow_made w #[] 0 (Nat.le_refl _) (by decide) (by simp)) p D.length m (D.map (Value.int .u8)) rfl (by simp) (HN.out _) (one8 D) (by unfold maxLen; omega) (by omega) (by simp) ?_))
      intro v' w2 hown hgrow _ hat
      have hown2 : w2.ownsRow w.heap.size 5 1 v' D.length (D.map (Value.int .u8)) := by simpa using hown
      have hb : Below w.heap.size w w2 := (HA.out _).grown hgrow (by simp) (fun k hk => by simp [Value.ownBlock] at hk; omega)
      have E1 := H.out.data hb hown2
      have X1 := Lib.hid E1
      have X0 := H.out.below hb
      obtain ⟨_, k1, k2, k3, _, _⟩ := X0.cells
      have kf := X0.core.blk.free
      obtain ⟨s5, m5, rfl⟩ := own_slice hown2
      clear hown hown2 hgrow hat hb E1 X0 c0 c1 c2 c3 c4 c5 f
      go_wp2_with fail
      go_meet
      have E2 := X1.out.1.setAt 0
      have E3 := E2.1.setVal 0
      exact ⟨_, E3.1, (X1.out.2.trans E2.2).trans E3.2⟩
  case rest =>
    obtain ⟨dv', hS⟩ := hcut
    obtain ⟨W1, rfl⟩ : ∃ W1 : World, W1 = wc := ⟨_, rfl⟩
    clear c0 c1 c2 c3 c4 c5 f
    go_wp2_with fail
    go_loopw [5] (fun i wr => ∃ k : Nat, k ≤ 4 ∧ i = .int .i64 (k : Int) ∧ Hid (SdC wr B a (.slice sp P.length mp) dv' P D k (Am.num D k) rg bg ∧ Kp a w wr)) (fun i _ => 4 - (intOf i).toNat)
    case atStart => exact ⟨0, by omega, rfl, hS⟩
    case round =>
      obtain ⟨k, hk, rfl, hT⟩ := hrel
      by_cases hlt : k < 4
      · have hb := num4 HDB.out hlt
        have D1 := hT.out.1.drewN 1
        have hnx := snext_c wr.drew B a k _ dv' P D (Am.num D k) rg bg D1.1 HDB.out (by omega)
        have hxb := Am.bytes_getD HDB.out k
        unfold Am.byte at hxb
        have hnum : Hid (Am.num D (k + 1) = 256 * Am.num D k + D.getD k 0) := rfl
        obtain ⟨x, hx⟩ : ∃ x, x = D.getD k 0 := ⟨_, rfl⟩
        obtain ⟨V, hV⟩ : ∃ V, V = Am.num D k := ⟨_, rfl⟩
        rw [← hx] at hnx hxb hnum
        rw [← hV] at hnx hb hnum D1
        obtain ⟨_, _, _, e3, _, _⟩ := D1.1.cells
        have e3 : wr.drew.cell? ⟨a, 3, none⟩ = some (.int .i64 V) := e3
        have HKD : Hid (Kp a w wr.drew) := hT.out.2.trans D1.2
        have hw1 : wrap64 (256 * V) = 256 * V := by unfold wrap64; omega
        have hw2 : wrap64 (256 * V + x) = 256 * V + x := by unfold wrap64; omega
        have hw3 : IntKind.i64.wrap (256 * V) = 256 * V := IntWalk.i64_in _ (by omega)
        have hw4 : IntKind.i64.wrap (256 * V + x) = 256 * V + x := IntWalk.i64_in _ (by omega)
        clear hx hV D1
        go_wp2_with fail
        go_region_law (first | (go_simp; go_at_call 78; (with_reducible refine hnx.mono ?_); rintro e x1 ⟨rfl, hS1, hK1⟩; have g3 := hS1.cells.2.2.2.1; have gf := hS1.core.blk.free; have HS1 := Lib.hid hS1; have HK1 := Lib.hid hK1; clear hS1 hK1; go_wp2_with fail) | fail)
        all_goals
          go_wp2_with fail
          go_roundw
          case rel =>
            have Y := HS1.out.setVal (256 * V + x)
            exact ⟨k + 1, by omega, by go_num, by rw [hnum.out]; exact Y.1, (HKD.out.trans HK1.out).trans Y.2⟩
          case measure => simp [intOf]; omega
      · obtain rfl : k = 4 := by omega
        obtain ⟨_, _, _, d3, d4, d5⟩ := hT.out.1.cells
        have df := hT.out.1.core.blk.free
        have hfx := Lib.hid (Am.fixd_num HDB.out)
        have HT := Lib.hid hT.out
        clear hT hS
        generalize hV : Am.num D 4 = V at d3 HT hfx
        clear hV
        by_cases hm : V ≤ 4294967294
        · go_wp2_with fail
          go_ret
          have Y1 := HT.out.1.setVal V
          have Y2 := Y1.1.setRg 4294967295
          have Y3 := Y2.1.setBg true
          refine ⟨rfl, ⟨.slice sp P.length mp, dv', ?_⟩, ((HT.out.2.trans Y1.2).trans Y2.2).trans Y3.2⟩
          show SdC _ B a (.slice sp P.length mp) dv' P D 4 (Am.num (Am.fixd D) 4 - 0) 4294967295 true
          rw [hfx.out, Int.sub_zero, show min V 4294967294 = V by omega]
          exact Y3.1
        · have hm2 : 4294967294 < V := by omega
          clear hm
          go_wp2_with fail
          go_ret
          have Y1 := HT.out.1.setVal 4294967294
          have Y2 := Y1.1.setRg 4294967295
          have Y3 := Y2.1.setBg true
          refine ⟨rfl, ⟨.slice sp P.length mp, dv', ?_⟩, ((HT.out.2.trans Y1.2).trans Y2.2).trans Y3.2⟩
          show SdC _ B a (.slice sp P.length mp) dv' P D 4 (Am.num (Am.fixd D) 4 - 0) 4294967295 true
          rw [hfx.out, Int.sub_zero, show min V 4294967294 = 4294967294 by omega]
          exact Y3.1
end Go.Proofs.YtbaappodeicomaaDoor
