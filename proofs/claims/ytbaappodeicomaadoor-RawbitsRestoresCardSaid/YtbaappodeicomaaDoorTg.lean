/-
  bits and gets of layer 12's law.
-/
import Derived.Test.YtbaappodeicomaaDoorTr
set_option maxRecDepth 100000
namespace Go.Proofs.YtbaappodeicomaaDoor
open Go.RowKit

def bitB (l : List Int) : Bool := decide (l.length ≤ 2000) && l.all fun b => b == 0 || b == 1
theorem bitB_iff (l : List Int) : bitB l = true ↔ l.length ≤ 2000 ∧ Pk.bits l := by
  unfold bitB Pk.bits Pk.bit
  simp
theorem bitB_no {l : List Int} (h : ¬ (l.length ≤ 2000 ∧ Pk.bits l)) : bitB l = false := by
  rw [← Bool.not_eq_true, bitB_iff]; exact h
theorem HoldsI.at {w : World} {s : Option Addr} {l : List Int} (h : HoldsI w s l) {k : Nat} (hk : k < l.length) : ∃ b off, s = some ⟨b, off, none⟩ ∧ w.cell? ⟨b, off + k, none⟩ = some (.int .i64 l[k]) := by
  rcases h with rfl | ⟨b, off, rfl, hr⟩
  · simp at hk
  · exact ⟨b, off, rfl, hr k hk⟩
theorem bits12_c (l : List Int) (s : Option Addr) (m : Nat) (w : World) (hH : HoldsI w s l) : Calls Tryd.prog 59 #[.slice s l.length m] w fun e w' => e = .returned (.bool (bitB l)) ∧ w = w' := by
  have HH := Lib.hid hH
  clear hH
  go_enter Tryd.func59, Tryd.ntmps59
  go_wp2_with fail
  go_loop [3] (fun i => ∃ k : Nat, k ≤ l.length ∧ k ≤ 2000 ∧ i = .int .i64 (k : Int) ∧ Hid (∀ j (_ : j < l.length), j < k → Pk.bit l[j])) (fun i => 2000 - (intOf i).toNat)
  case atStart => exact ⟨0, Nat.zero_le _, by omega, rfl, fun j _ h => by omega⟩
  case round =>
    obtain ⟨k, hk, hk2, rfl, hR⟩ := hrel
    by_cases hlt : k < l.length
    · by_cases h2 : k < 2000
      · obtain ⟨b, off, rfl, hc⟩ := HH.out.at hlt
        obtain ⟨x, hx⟩ : ∃ x, x = l[k] := ⟨_, rfl⟩
        rw [← hx] at hc
        have HX := Lib.hid hx
        clear hx
        by_cases h0 : x < 0
        · have hf : Hid (bitB l = false) := by
            show _ = _
            refine bitB_no ?_
            rintro ⟨_, hb⟩
            have := hb _ (List.getElem_mem hlt)
            rw [← HX.out] at this
            unfold Pk.bit at this; omega
          go_wp2_with fail
          go_ret
          exact ⟨by rw [hf.out]; rfl, rfl⟩
        · by_cases h1 : 1 < x
          · have hf : Hid (bitB l = false) := by
              show _ = _
              refine bitB_no ?_
              rintro ⟨_, hb⟩
              have := hb _ (List.getElem_mem hlt)
              rw [← HX.out] at this
              unfold Pk.bit at this; omega
            go_wp2_with fail
            go_ret
            exact ⟨by rw [hf.out]; rfl, rfl⟩
          · go_wp2_with fail
            go_round
            case rel =>
              refine ⟨k + 1, by omega, by omega, by go_num, fun j hj hjk => ?_⟩
              by_cases he : j = k
              · subst he
                rw [← HX.out]; unfold Pk.bit; omega
              · exact hR.out j hj (by omega)
            case measure => simp [intOf]; omega
      · have hge : ¬ (l.length ≤ 2000) := by omega
        have hf : Hid (bitB l = decide (l.length ≤ 2000)) := by show _ = _; rw [bitB_no (fun h => hge h.1)]; simp [hge]
        go_wp2_with fail
        go_ret
        exact ⟨by rw [hf.out]; simp [hge]; omega, rfl⟩
    · obtain rfl : k = l.length := by omega
      have hf : Hid (bitB l = true) := by
        show _ = _
        refine (bitB_iff l).2 ⟨hk2, fun x hx => ?_⟩
        obtain ⟨j, hj, rfl⟩ := List.getElem_of_mem hx
        exact hR.out j hj hj
      go_wp2_with fail
      go_ret
      exact ⟨by rw [hf.out]; simp; omega, rfl⟩
theorem gets_c (w : World) (bs : List Int) (s : Option Addr) (m : Nat) (hH : HoldsB w s bs) (hs : s = none → bs = [] ∧ m = 0) (hY : Am.bytes bs) (hl : bs.length ≤ 1000000) (l : List Int) (u : Option Addr) (p : Nat) (hI : HoldsI w u l) (hll : l.length ≤ 1000000) (z : Nat) (hz : z ≤ 1000)
    (h1 : ∀ i (_ : i < l.length), Pk.bitAt bs i = l[i]) (h2 : ∀ j, j < z → Pk.bitAt bs (l.length + j) = 0) :
    Calls Tryd.prog 60 #[.slice s bs.length m, .slice u l.length p, .int .i64 (z : Int)] w fun e w' => e = .returned (.bool true) ∧ Below w.heap.size w w' := by
  have HI := Lib.hid hI
  have HY := Lib.hid hY
  have H1 := Lib.hid h1
  have H2 := Lib.hid h2
  have hn := rnew_c w bs s m hH hs (by omega)
  clear hI hY h1 h2 hH hs
  go_enter Tryd.func60, Tryd.ntmps60
  go_wp2_with fail
  refine hn.mono ?_
  rintro e w1 ⟨r, rfl, hR, hb⟩
  have hI0 : Hid (Rr w1 w.heap.size r bs 0 ∧ Below w.heap.size w w1) := ⟨hR, hb⟩
  clear hn hR hb
  go_wp2_with fail
  go_loopw [13] (fun i wr => ∃ k : Nat, k ≤ l.length ∧ i = .int .i64 (k : Int) ∧ Hid (Rr wr w.heap.size r bs k ∧ Below w.heap.size w wr)) (fun i _ => l.length - (intOf i).toNat)
  case atStart => exact ⟨0, Nat.zero_le _, rfl, hI0⟩
  case round =>
    obtain ⟨k, hk, rfl, hT⟩ := hrel
    by_cases hlt : k < l.length
    · obtain ⟨b, off, rfl, hc0⟩ := HI.out.at hlt
      have hblt := cell_lt hc0
      have hc := (hT.out.2.cell (p := ⟨b, off + k, none⟩) hblt).trans hc0
      have hg := rget_c _ _ r bs k (hT.out.1.below (Below.refl _ _).drew) HY.out (by omega)
      rw [H1.out k hlt] at hg
      have HC0 := Lib.hid hc0
      clear hc0
      generalize l[k] = x at *
      have hxx : (x != x) = false := by simp
      have hcd : wr.drew.cell? ⟨b, off + k, none⟩ = some (.int .i64 x) := hc
      go_upto_region 5 with fail
      go_region_held3 (fun w' => w'.cell? ⟨b, off + k, none⟩ = some (.int .i64 x))
        (first | (with_reducible exact hcd) | (with_reducible exact hc2) | fail)
        (first | (go_at_call 55; (with_reducible refine hg.mono ?_); rintro e x1 ⟨rfl, hR1, hK1⟩; have hB1 := hT.out.2.trans (hT.out.1.out ((Kp.of_below (Below.refl _ _).drew hT.out.1.lt).trans hK1)); have hc2 := (hB1.cell (p := ⟨b, off + k, none⟩) hblt).trans HC0.out) | fail)
      all_goals
        go_wp2_with fail
        go_roundw
        case rel => exact ⟨k + 1, by omega, by go_num, ⟨hR1, hB1⟩⟩
        case measure => simp [intOf]; omega
    · obtain rfl : k = l.length := by omega
      clear hlt hk
      go_wp2_with fail
      go_loopw [25] (fun i wr => ∃ k : Nat, k ≤ z ∧ i = .int .i64 (k : Int) ∧ Hid (Rr wr w.heap.size r bs (l.length + k) ∧ Below w.heap.size w wr)) (fun i _ => z - (intOf i).toNat)
      case atStart => exact ⟨0, Nat.zero_le _, rfl, hT⟩
      case round =>
        obtain ⟨k, hk, rfl, hT⟩ := hrel
        by_cases hlt : k < z
        · have hg := rget_c _ _ r bs (l.length + k) hT.out.1 HY.out (by omega)
          rw [H2.out k hlt] at hg
          go_wp2_with (first | (go_at_call 55; (with_reducible refine hg.mono ?_); rintro e x1 ⟨rfl, hR1, hK1⟩))
          go_roundw
          case rel => exact ⟨k + 1, by omega, by go_num, ⟨hR1, hT.out.2.trans (hT.out.1.out hK1)⟩⟩
          case measure => simp [intOf]; omega
        · obtain rfl : k = z := by omega
          have hg := rat_c _ _ r bs (l.length + k) hT.out.1
          have hA : Hid (((l.length + k : Nat) : Int) = (l.length : Int) + (k : Int)) := by show _ = _; omega
          go_wp2_with (first | (go_at_call 57; (with_reducible refine hg.mono ?_); rintro e wn ⟨rfl, rfl⟩))
          go_ret
          exact ⟨by simp, hT.out.2⟩
end Go.Proofs.YtbaappodeicomaaDoor
