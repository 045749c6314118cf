/-
  Layer 27: contracts of Resync, code and reference.
-/
import Derived.Test.YtpnnmibdboelpaaCq
set_option maxRecDepth 100000
namespace Go.Proofs.Ytpnnmibdboelpaa
open Go.RowKit

structure Rs where
  p : Int
  q : Int
  ok : Bool
def hit (bs : List Int) (lo hi : Int) (k : Nat) : Prop := (fr bs k).e = 0 ∧ lo ≤ (fr bs k).q ∧ (fr bs k).q ≤ hi
instance (bs : List Int) (lo hi : Int) (k : Nat) : Decidable (hit bs lo hi k) := inferInstanceAs (Decidable (_ ∧ _))
def rsF (bs : List Int) (lo hi : Int) : Nat → Nat → Rs
  | 0, _ => ⟨0, 0, false⟩
  | n + 1, k => if hit bs lo hi k then ⟨k, (fr bs k).q, true⟩ else rsF bs lo hi n (k + 1)
def rs (bs : List Int) (a lo hi : Int) : Rs := if 0 ≤ a ∧ a ≤ bs.length then rsF bs lo hi (bs.length + 1 - a.toNat) a.toNat else ⟨0, 0, false⟩
theorem rsF_hit {bs : List Int} {lo hi : Int} {k : Nat} (hk : k ≤ bs.length) (h : hit bs lo hi k) : rsF bs lo hi (bs.length + 1 - k) k = ⟨k, (fr bs k).q, true⟩ := by
  rw [show bs.length + 1 - k = (bs.length - k) + 1 by omega, rsF, if_pos h]
theorem rsF_miss {bs : List Int} {lo hi : Int} {k : Nat} (hk : k ≤ bs.length) (h : ¬ hit bs lo hi k) : rsF bs lo hi (bs.length + 1 - k) k = rsF bs lo hi (bs.length + 1 - (k + 1)) (k + 1) := by
  rw [show bs.length + 1 - k = (bs.length + 1 - (k + 1)) + 1 by omega, rsF, if_neg h]
theorem fr_short {bs : List Int} {k : Nat} (h : (bs.length : Int) - k < 11) : (fr bs k).e ≠ 0 := by
  have : (rm bs k).e ≠ 0 := by
    rcases rm_cases bs k with ⟨_, e⟩ | ⟨_, _, e⟩ | ⟨_, _, _, e⟩ | ⟨A, hA, hA2, _⟩
    · rw [e]; decide
    · rw [e]; decide
    · rw [e]; decide
    · omega
  unfold fr
  rw [if_pos this]
  exact this
theorem rsF_short (bs : List Int) (lo hi : Int) : ∀ n k : Nat, (bs.length : Int) - k < 11 → rsF bs lo hi n k = ⟨0, 0, false⟩
  | 0, _, _ => rfl
  | n + 1, k, h => by rw [rsF, if_neg (fun z => fr_short h z.1)]; exact rsF_short bs lo hi n (k + 1) (by omega)
theorem fr_bad {bs : List Int} {a : Int} (h : (rm bs a).e ≠ 0) : (fr bs a).e ≠ 0 := by unfold fr; rw [if_pos h]; exact h
theorem fr_bad2 {bs : List Int} {a : Int} (h : (rt bs a.toNat (rm bs a).n (rm bs a).c).e ≠ 0) : (fr bs a).e ≠ 0 := by
  by_cases h0 : (rm bs a).e = 0
  · unfold fr; rw [if_neg (fun z => z h0), if_pos h]; exact h
  · exact fr_bad h0
theorem fr_q {bs : List Int} {a : Int} (h : (fr bs a).e = 0) : (fr bs a).q = (rm bs a).q := by
  by_cases h0 : (rm bs a).e = 0
  · by_cases h1 : (rt bs a.toNat (rm bs a).n (rm bs a).c).e = 0
    · unfold fr; rw [if_neg (fun z => z h0), if_neg (fun z => z h1)]
    · exact absurd h (fr_bad2 h1)
  · exact absurd h (fr_bad h0)
theorem fr_good {bs : List Int} {a : Int} (h0 : (rm bs a).e = 0) (h1 : (rt bs a.toNat (rm bs a).n (rm bs a).c).e = 0) : (fr bs a).e = 0 := by
  unfold fr; rw [if_neg (fun z => z h0), if_neg (fun z => z h1)]
def GivesRs (r : Rs) (w : World) (e : Ending) (w' : World) : Prop := e = .returned (.tuple #[.int .i64 r.p, .int .i64 r.q, .bool r.ok]) ∧ Below w.heap.size w w'
set_option maxHeartbeats 4000000 in
theorem resync_c (bs : List Int) (s : Option Addr) (m : Nat) (a lo hi : Int) (w : World) (hH : HoldsB w s bs) (hB : Mk.bytes bs) (hm : bs.length ≤ m) (hl : bs.length ≤ 1000000) :
    Calls Try.prog 16 #[.slice s bs.length m, .int .i64 a, .int .i64 lo, .int .i64 hi] w (GivesRs (rs bs a lo hi) w) := by
  have ko := isOffset_c s bs.length m a w
  by_cases h : 0 ≤ a ∧ a ≤ bs.length
  · obtain ⟨A, rfl⟩ : ∃ A : Nat, a = A := ⟨a.toNat, by omega⟩
    rw [show offB bs.length A = true by simp [offB]; omega] at ko
    have e : rs bs A lo hi = rsF bs lo hi (bs.length + 1 - A) A := by unfold rs; rw [if_pos h]; rfl
    rw [e]
    have HH := Lib.hid hH
    have HB := Lib.hid hB
    have HM := Lib.hid hm
    have hA : A ≤ bs.length := by omega
    have w1 : IntKind.i64.wrap ((bs.length : Int) - 11) = (bs.length : Int) - 11 := IntWalk.i64_in _ (by omega)
    clear e h hH hB hm
    go_enter Try.func16, Try.ntmps16
    go_upto_region 3 with (first | (go_at_call 28; (with_reducible refine ko.mono ?_); rintro e wn ⟨rfl, rfl⟩) | fail)
    go_wp2_with fail
    go_loopw [8] (fun i wr => ∃ k : Nat, k ≤ bs.length ∧ i = .int .i64 (k : Int) ∧ Hid (Below w.heap.size w wr) ∧ Hid (rsF bs lo hi (bs.length + 1 - A) A = rsF bs lo hi (bs.length + 1 - k) k)) (fun i _ => bs.length + 1 - (intOf i).toNat)
    case atStart => exact ⟨A, hA, rfl, Lib.hid (Below.refl _ _), Lib.hid rfl⟩
    case round =>
      obtain ⟨k, hk, rfl, HW, HR⟩ := hrel
      by_cases hlt : (k : Int) ≤ (bs.length : Int) - 11
      · have km := readMark_c bs s m k wr (HH.out.call HW.out) HB.out HM.out hl
        have HX := Lib.hid (show ((rm bs k).e = 0 → k + 11 ≤ bs.length ∧ (0 ≤ (rm bs k).n ∧ (rm bs k).n < 4294967296)) from fun z => by obtain ⟨A, h1, h2, h3, _⟩ := rm_ok HB.out z; exact ⟨by omega, h3⟩)
        have kt := fun (z : (rm bs k).e = 0) w1 (hw1 : Below w.heap.size w w1) => rest_c bs s m k (rm bs k).q (rm bs k).n (rm bs k).c w1 (HH.out.call hw1) HB.out HM.out hl (HX.out z).1 (HX.out z).2
        have HF := Lib.hid (show (rm bs k).e ≠ 0 → ¬ hit bs lo hi k from fun z t => fr_bad z t.1)
        have HF2 := Lib.hid (show ((rm bs k).q < lo ∨ hi < (rm bs k).q) → ¬ hit bs lo hi k from fun z t => by have := fr_q t.1; have a := t.2.1; have b := t.2.2; rw [this] at a b; omega)
        have HF3 := Lib.hid (show (rt bs k (rm bs k).n (rm bs k).c).e ≠ 0 → ¬ hit bs lo hi k from fun z t => fr_bad2 z t.1)
        have HF4 := Lib.hid (show (rm bs k).e = 0 → (rt bs k (rm bs k).n (rm bs k).c).e = 0 → lo ≤ (rm bs k).q → (rm bs k).q ≤ hi → rsF bs lo hi (bs.length + 1 - k) k = ⟨k, (rm bs k).q, true⟩ from fun a b c d => by
          have g := fr_good (bs := bs) (a := k) a b
          rw [rsF_hit hk ⟨g, by rw [fr_q g]; exact c, by rw [fr_q g]; exact d⟩, fr_q g])
        generalize rt bs k (rm bs k).n (rm bs k).c = T at *
        generalize rm bs k = R at *
        obtain ⟨Q, N, C, E⟩ := R
        obtain ⟨F, T, E2⟩ := T
        simp only at HF HF2 HF3 HF4 kt HX
        by_cases hE : E = 0
        · subst hE
          replace kt := kt rfl
          by_cases hq : Q < lo
          · have HN := Lib.hid (HF2.out (.inl hq))
            have d1 : decide (Q < lo) = true := decide_eq_true hq
            clear kt hq
            go_upto_region 7 with (first | (go_at_call 24; (with_reducible refine km.mono ?_); rintro e w1 ⟨rfl, hw1⟩; have Hw1 := Lib.hid hw1; clear hw1) | fail)
            have HW2 := Lib.hid (show Below w.heap.size w (w1.alloc (Obj.cells #[Value.int IntKind.i64 Q, Value.int IntKind.i64 N, Value.int IntKind.i64 C] 62)) from (HW.out.trans (Hw1.out.mono HW.out.size)).alloc (HW.out.trans (Hw1.out.mono HW.out.size)).size _)
            have HV2 := Lib.hid (show Below wr.heap.size wr (w1.alloc (Obj.cells #[Value.int IntKind.i64 Q, Value.int IntKind.i64 N, Value.int IntKind.i64 C] 62)) from Hw1.out.alloc Hw1.out.size _)
            have HM2 := Lib.hid (show Blk (w1.alloc (Obj.cells #[Value.int IntKind.i64 Q, Value.int IntKind.i64 N, Value.int IntKind.i64 C] 62)) w1.heap.size 62 #[.int .i64 Q, .int .i64 N, .int .i64 C] from Blk.new _ _ _)
            generalize (w1.alloc (Obj.cells #[Value.int IntKind.i64 Q, Value.int IntKind.i64 N, Value.int IntKind.i64 C] 62)) = W2 at *
            generalize w1.heap.size = g at *
            obtain ⟨m0, m1, m2⟩ := HM2.out.three
            go_wp2_with fail
            have WW := HW2
            go_roundw
            case rel => exact ⟨k + 1, by omega, by go_num, WW, Lib.hid (HR.out.trans (rsF_miss hk HN.out))⟩
            case measure => simp [intOf]; omega
          · by_cases hq2 : hi < Q
            · have HN := Lib.hid (HF2.out (.inr hq2))
              have d1 : decide (Q < lo) = false := decide_eq_false hq
              have d2 : decide (hi < Q) = true := decide_eq_true hq2
              clear kt hq hq2
              go_upto_region 7 with (first | (go_at_call 24; (with_reducible refine km.mono ?_); rintro e w1 ⟨rfl, hw1⟩; have Hw1 := Lib.hid hw1; clear hw1) | fail)
              have HW2 := Lib.hid (show Below w.heap.size w (w1.alloc (Obj.cells #[Value.int IntKind.i64 Q, Value.int IntKind.i64 N, Value.int IntKind.i64 C] 62)) from (HW.out.trans (Hw1.out.mono HW.out.size)).alloc (HW.out.trans (Hw1.out.mono HW.out.size)).size _)
              have HV2 := Lib.hid (show Below wr.heap.size wr (w1.alloc (Obj.cells #[Value.int IntKind.i64 Q, Value.int IntKind.i64 N, Value.int IntKind.i64 C] 62)) from Hw1.out.alloc Hw1.out.size _)
              have HM2 := Lib.hid (show Blk (w1.alloc (Obj.cells #[Value.int IntKind.i64 Q, Value.int IntKind.i64 N, Value.int IntKind.i64 C] 62)) w1.heap.size 62 #[.int .i64 Q, .int .i64 N, .int .i64 C] from Blk.new _ _ _)
              generalize (w1.alloc (Obj.cells #[Value.int IntKind.i64 Q, Value.int IntKind.i64 N, Value.int IntKind.i64 C] 62)) = W2 at *
              generalize w1.heap.size = g at *
              obtain ⟨m0, m1, m2⟩ := HM2.out.three
              go_wp2_with fail
              have WW := HW2
              go_roundw
              case rel => exact ⟨k + 1, by omega, by go_num, WW, Lib.hid (HR.out.trans (rsF_miss hk HN.out))⟩
              case measure => simp [intOf]; omega
            · have HQ := Lib.hid (show lo ≤ Q ∧ Q ≤ hi from ⟨by omega, by omega⟩)
              have d1 : decide (Q < lo) = false := decide_eq_false hq
              have d2 : decide (hi < Q) = false := decide_eq_false hq2
              clear hq hq2
              by_cases hT : E2 = 0
              · subst hT
                have HG := Lib.hid (HF4.out rfl rfl HQ.out.1 HQ.out.2)
                go_upto_region 7 with (first | (go_at_call 24; (with_reducible refine km.mono ?_); rintro e w1 ⟨rfl, hw1⟩; have Hw1 := Lib.hid hw1; clear hw1) | fail)
                have HW2 := Lib.hid (show Below w.heap.size w (w1.alloc (Obj.cells #[Value.int IntKind.i64 Q, Value.int IntKind.i64 N, Value.int IntKind.i64 C] 62)) from (HW.out.trans (Hw1.out.mono HW.out.size)).alloc (HW.out.trans (Hw1.out.mono HW.out.size)).size _)
                have HV2 := Lib.hid (show Below wr.heap.size wr (w1.alloc (Obj.cells #[Value.int IntKind.i64 Q, Value.int IntKind.i64 N, Value.int IntKind.i64 C] 62)) from Hw1.out.alloc Hw1.out.size _)
                have HM2 := Lib.hid (show Blk (w1.alloc (Obj.cells #[Value.int IntKind.i64 Q, Value.int IntKind.i64 N, Value.int IntKind.i64 C] 62)) w1.heap.size 62 #[.int .i64 Q, .int .i64 N, .int .i64 C] from Blk.new _ _ _)
                generalize (w1.alloc (Obj.cells #[Value.int IntKind.i64 Q, Value.int IntKind.i64 N, Value.int IntKind.i64 C] 62)) = W2 at *
                generalize w1.heap.size = g at *
                obtain ⟨m0, m1, m2⟩ := HM2.out.three
                have k2 := kt W2 HW2.out
                go_upto_region 10 with (first | (go_at_call 25; (with_reducible refine k2.mono ?_); rintro e w3 ⟨rfl, hw3⟩; have Hw3 := Lib.hid hw3; clear hw3) | fail)
                have HM3 := Lib.hid (HM2.out.below Hw3.out)
                have n0 := HM3.out.three.1
                go_region
                go_wp2_with fail
                refine bodyPost_ret (results_3 rfl _ _) rfl ?_
                refine ⟨?_, (HW2.out.trans (Hw3.out.mono HW2.out.size)).drew⟩
                rw [HR.out, HG.out]
                rfl
              · have HN := Lib.hid (HF3.out hT)
                have b2 : (E2 == 0) = false := by simpa using hT
                clear hT
                go_upto_region 7 with (first | (go_at_call 24; (with_reducible refine km.mono ?_); rintro e w1 ⟨rfl, hw1⟩; have Hw1 := Lib.hid hw1; clear hw1) | fail)
                have HW2 := Lib.hid (show Below w.heap.size w (w1.alloc (Obj.cells #[Value.int IntKind.i64 Q, Value.int IntKind.i64 N, Value.int IntKind.i64 C] 62)) from (HW.out.trans (Hw1.out.mono HW.out.size)).alloc (HW.out.trans (Hw1.out.mono HW.out.size)).size _)
                have HV2 := Lib.hid (show Below wr.heap.size wr (w1.alloc (Obj.cells #[Value.int IntKind.i64 Q, Value.int IntKind.i64 N, Value.int IntKind.i64 C] 62)) from Hw1.out.alloc Hw1.out.size _)
                have HM2 := Lib.hid (show Blk (w1.alloc (Obj.cells #[Value.int IntKind.i64 Q, Value.int IntKind.i64 N, Value.int IntKind.i64 C] 62)) w1.heap.size 62 #[.int .i64 Q, .int .i64 N, .int .i64 C] from Blk.new _ _ _)
                generalize (w1.alloc (Obj.cells #[Value.int IntKind.i64 Q, Value.int IntKind.i64 N, Value.int IntKind.i64 C] 62)) = W2 at *
                generalize w1.heap.size = g at *
                obtain ⟨m0, m1, m2⟩ := HM2.out.three
                have k2 := kt W2 HW2.out
                go_wp2_with (first | (go_at_call 25; (with_reducible refine k2.mono ?_); rintro e w3 ⟨rfl, hw3⟩; have Hw3 := Lib.hid hw3; clear hw3) | fail)
                have WW := Lib.hid (HW2.out.trans (Hw3.out.mono HW2.out.size))
                go_roundw
                case rel => exact ⟨k + 1, by omega, by go_num, WW, Lib.hid (HR.out.trans (rsF_miss hk HN.out))⟩
                case measure => simp [intOf]; omega
        · have HN := Lib.hid (HF.out hE)
          have b2 : (E != 0) = true := by simpa using hE
          clear kt hE
          go_upto_region 7 with (first | (go_at_call 24; (with_reducible refine km.mono ?_); rintro e w1 ⟨rfl, hw1⟩; have Hw1 := Lib.hid hw1; clear hw1) | fail)
          have HW2 := Lib.hid (show Below w.heap.size w (w1.alloc (Obj.cells #[Value.int IntKind.i64 Q, Value.int IntKind.i64 N, Value.int IntKind.i64 C] 62)) from (HW.out.trans (Hw1.out.mono HW.out.size)).alloc (HW.out.trans (Hw1.out.mono HW.out.size)).size _)
          have HV2 := Lib.hid (show Below wr.heap.size wr (w1.alloc (Obj.cells #[Value.int IntKind.i64 Q, Value.int IntKind.i64 N, Value.int IntKind.i64 C] 62)) from Hw1.out.alloc Hw1.out.size _)
          have HM2 := Lib.hid (show Blk (w1.alloc (Obj.cells #[Value.int IntKind.i64 Q, Value.int IntKind.i64 N, Value.int IntKind.i64 C] 62)) w1.heap.size 62 #[.int .i64 Q, .int .i64 N, .int .i64 C] from Blk.new _ _ _)
          generalize (w1.alloc (Obj.cells #[Value.int IntKind.i64 Q, Value.int IntKind.i64 N, Value.int IntKind.i64 C] 62)) = W2 at *
          generalize w1.heap.size = g at *
          obtain ⟨m0, m1, m2⟩ := HM2.out.three
          go_wp2_with fail
          have WW := HW2
          go_roundw
          case rel => exact ⟨k + 1, by omega, by go_num, WW, Lib.hid (HR.out.trans (rsF_miss hk HN.out))⟩
          case measure => simp [intOf]; omega
      · go_wp2_with fail
        refine bodyPost_ret (results_3 rfl _ _) rfl ?_
        refine ⟨?_, HW.out⟩
        rw [HR.out, rsF_short bs lo hi _ _ (by omega)]
        rfl
  · rw [show offB bs.length a = false by simp [offB]; omega] at ko
    have e : rs bs a lo hi = ⟨0, 0, false⟩ := by unfold rs; rw [if_neg h]
    rw [e]
    clear e h
    go_enter Try.func16, Try.ntmps16
    go_wp2_with (first | (go_at_call 28; (with_reducible refine ko.mono ?_); rintro e wn ⟨rfl, rfl⟩) | fail)
    refine bodyPost_ret (results_3 rfl _ _) rfl ?_
    exact ⟨rfl, Below.refl _ _⟩
end Go.Proofs.Ytpnnmibdboelpaa
