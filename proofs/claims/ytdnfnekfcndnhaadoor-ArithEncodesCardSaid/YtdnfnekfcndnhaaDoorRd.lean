/-
  Layer 11, the reference's encoder: the walk of up.
-/
import Derived.Test.YtdnfnekfcndnhaaDoorRc
set_option maxRecDepth 100000
namespace Go.Proofs.YtdnfnekfcndnhaaDoor
open Go.RowKit

theorem ri_own {w : World} {base n : Nat} {v : Value} {l : List Int} (h : w.ownsRow base 3 1 v n (l.map (Value.int .i64))) (hl : l ≠ []) : ∃ g m, v = .slice (some ⟨g, 0, none⟩) l.length m ∧ base ≤ g ∧ Ri w g l := by
  obtain ⟨rfl, ⟨rfl, rfl⟩ | ⟨g, m, pad, rfl, h1, h2, h3⟩⟩ := rowP_own h
  · exact absurd rfl hl
  · refine ⟨g, m, rfl, h1, _, h2, fun i hi => ?_⟩
    rw [List.getElem?_toArray, List.getElem?_append_left (by simpa using hi)]
    simp [hi]
set_option maxHeartbeats 8000000 in
theorem up_c (w : World) (gl N k m : Nat) (v rg : Int) (hN : 4 ≤ N) (hNb : N ≤ 1000000000) (hk : k ≤ N) (h0 : 0 ≤ v) (h1 : v + 1 ≤ Am.Pw N) (hr : 1 ≤ rg) (hr2 : rg ≤ 4294967295) (HL : HoldsI w (some ⟨gl, 0, none⟩) (Am.dig N v)) :
    Calls Tryd.prog 31 #[.slice (some ⟨gl, 0, none⟩) N m, .int .i64 (k : Int), .int .i64 rg] w (UpG w N k v rg) := by
  obtain ⟨i0, hi, hz0, hz1, hz2⟩ := info_parts infoI
  have HA := Lib.hid (fun X => (Below.refl w.heap.size w).alloc (Nat.le_refl _) X)
  have HN := Lib.hid (fun X => holdsI_list (HL.call (HA.out X)))
  have HT := Lib.hid h1
  have HD := Lib.hid (Am.dig_len N v)
  generalize hD : Am.dig N v = D at *
  clear h1 HL
  go_enter Tryd.func31, Tryd.ntmps31
  go_wp2_with (first | (at_builtin; refine wpList_append_own_at _ rfl _ _ 48 rfl w.heap.size 3 i0 (.int .i64 0) 1 8 Tryd.underlying48 hi hz0 hz1 hz2 rfl (by decide) _ 0 [] rfl (World.ownsRow_made w #[] 0 (Nat.le_refl _) (by decide) (by simp)) ⟨gl, 0, none⟩ N m (D.map (Value.int .i64)) rfl (by simp [HD.out]) (HN.out _) (oneI D) (by unfold maxLen; omega) (by omega) (by simp) ?_))
  intro v' w2 hown hgrow _ hat
  have hown2 : w2.ownsRow w.heap.size 3 1 v' N (D.map (Value.int .i64)) := by simpa using hown
  have hb : Below w.heap.size w w2 := (HA.out _).grown hgrow (by simp) (fun k hk => by simp [Value.ownBlock] at hk; omega)
  obtain ⟨g, m1, rfl, hg, hR⟩ := ri_own hown2 (by intro e; subst e; have := HD.out; simp at this; omega)
  rw [HD.out] at *
  have hI : Hid (U1 w g N k v rg 0 true 0 w2) := by
    refine ⟨hg, hb, Am.uz_start hr, ?_⟩
    have e := Am.dig_split (N - k) k v
    rw [Nat.sub_add_cancel hk, hD] at e
    rw [e] at hR
    simpa using hR
  clear hown hown2 hgrow hat hb hR hD
  go_wp2_with fail
  go_loopw [9, 10, 11] (fun z y i wr => ∃ (q j : Nat) (zb : Bool) (yi : Int), q ≤ k ∧ j + k = N + q ∧ z = .bool zb ∧ y = .int .i64 yi ∧ i = .int .i64 (j : Int) ∧ Hid (U1 w g N k v rg q zb yi wr)) (fun _ _ i _ => N - (intOf i).toNat)
  case atStart => exact ⟨0, N - k, true, 0, Nat.zero_le _, by omega, rfl, rfl, by go_num, hI⟩
  case round =>
    obtain ⟨q, j, zb, yi, hq, hj, rfl, rfl, rfl, hU⟩ := hrel
    by_cases hlt : q < k
    · have hjN : j < N := by omega
      obtain ⟨d, hd, hc, hd0, hd1⟩ := hU.out.at hlt hk hj
      have hf := hU.out.2.2.2.free
      have hy0 := hU.out.2.2.1.y0
      have HNX := Lib.hid (hU.out.next hlt hk hj hd)
      clear hd
      by_cases hdz : d = 0
      · subst hdz
        by_cases hy : yi < rg
        · go_wp2_with fail
          go_roundw
          case rel => exact ⟨q + 1, j + 1, zb, 256 * yi + 255 - 0, by omega, by omega, rfl, by go_num, by go_num, by have := HNX.out; rw [if_pos rfl, if_pos hy] at this; exact this⟩
          case measure => simp [intOf]; omega
        · go_wp2_with fail
          go_roundw
          case rel => exact ⟨q + 1, j + 1, zb, yi, by omega, by omega, rfl, rfl, by go_num, by have := HNX.out; rw [if_pos rfl, if_neg hy] at this; exact this⟩
          case measure => simp [intOf]; omega
      · by_cases hy : yi < rg
        · go_wp2_with fail
          go_roundw
          case rel => exact ⟨q + 1, j + 1, false, 256 * yi + 255 - d, by omega, by omega, rfl, by go_num, by go_num, by have := HNX.out; rw [if_neg hdz, if_pos hy] at this; exact this⟩
          case measure => simp [intOf]; omega
        · go_wp2_with fail
          go_roundw
          case rel => exact ⟨q + 1, j + 1, false, yi, by omega, by omega, rfl, rfl, by go_num, by have := HNX.out; rw [if_neg hdz, if_neg hy] at this; exact this⟩
          case measure => simp [intOf]; omega
    · obtain rfl : q = k := by omega
      obtain rfl : j = N := by omega
      have hy0 := hU.out.2.2.1.y0
      cases zb with
      | true =>
        go_wp2_with fail
        go_ret2
        exact up_zero hU.out hk
      | false =>
        by_cases hy : rg ≤ yi + 1
        · go_wp2_with fail
          go_ret2
          exact up_far hU.out hy
        · obtain ⟨h2, h3, h4⟩ := up_near hU.out hy hk h0 HT.out
          have HU2 := Lib.hid h2
          have H3 := Lib.hid h3
          have H4 := Lib.hid h4
          clear h2 h3 h4
          go_wp2_with fail
          go_loopw [12] (fun i w3 => ∃ c : Nat, c ≤ j ∧ i = .int .i64 ((c : Int) - 1) ∧ Hid (∃ A, U2 w g j q v c A w3)) (fun i _ => (intOf i + 1).toNat)
          case atStart => exact ⟨j - q, by omega, by go_num, ⟨_, HU2.out⟩⟩
          case round =>
            obtain ⟨c, hcN, rfl, A, hA⟩ := hrel
            cases c with
            | zero =>
              go_wp2_with fail
              go_ret2
              exact up_end hA H3.out
            | succ c =>
              have hc := hA.at
              have hf := hA.2.2.2.free
              have HAh := Lib.hid hA
              obtain ⟨d, hd⟩ : ∃ d, d = A % 256 := ⟨_, rfl⟩
              have hdb : 0 ≤ d ∧ d ≤ 255 := by omega
              rw [← hd] at hc
              have HDd := Lib.hid hd
              have ec : ((c + 1 : Nat) : Int) - 1 = (c : Int) := by omega
              rw [ec]
              have ecn : c < j := by omega
              clear hA hd
              by_cases hx : d = 255
              · subst hx
                go_wp2_with fail
                go_roundw
                case rel => exact ⟨c, by omega, rfl, _, HAh.out.next HDd.out.symm⟩
                case measure => simp [intOf]
              · go_wp2_with fail
                go_ret2
                have := up_done (m := m1) HAh.out (by rw [← HDd.out]; exact hx) H3.out H4.out
                rw [← HDd.out] at this
                exact this
end Go.Proofs.YtdnfnekfcndnhaaDoor
