/-
  Layer 21: contracts of rising and last.
-/
import Derived.Test.YtkohdiajpdlkjaaAe
import Derived.Test.YtkohdiajpdlkjaaIc
import Derived.Laws.MakeOwn
set_option maxRecDepth 100000
namespace Go.Proofs.Ytkohdiajpdlkjaa
open Go.RowKit

/-- No budget is below 0 or below the one before it; the last one may be -1. -/
def rise : Int → List Int → Bool
  | _, [] => true
  | lo, b :: l => if b = -1 ∧ l = [] then true else if b < lo then false else rise b l
theorem drop_at {l : List Int} {k : Nat} (h : k < l.length) : l.drop k = l.getD k 0 :: l.drop (k + 1) := by
  rw [List.drop_eq_getElem_cons h, List.getD_eq_getElem?_getD, List.getElem?_eq_getElem h]; rfl
set_option maxHeartbeats 1000000 in
theorem rising_c (a : Option Addr) (m n : Nat) (l : List Int) (W : World) (hL : HoldsI W a l) (hn : n = l.length) (hn2 : n ≤ 1000000) :
    Calls Try.prog 20 #[.slice a n m] W fun e w' => e = .returned (.bool (rise 0 l)) ∧ w' = W := by
  have HL := Lib.hid hL
  have HN := Lib.hid hn
  have HN2 := Lib.hid hn2
  have hl : rise 0 (l.drop 0) = rise 0 l := by rw [List.drop_zero]
  have H0 := Lib.hid hl
  clear hL hn hn2 hl
  go_enter Try.func20, Try.ntmps20
  go_wp2_with fail
  go_loopw [3, 8] (fun lo i wr => ∃ k : Nat, ∃ b : Int, k ≤ n ∧ lo = .int .i64 b ∧ i = .int .i64 (k : Int) ∧ wr = W ∧ Hid (rise b (l.drop k) = rise 0 l)) (fun _ i _ => n - (intOf i).toNat)
  case atStart => exact ⟨0, 0, Nat.zero_le _, rfl, rfl, rfl, H0⟩
  case round =>
    obtain ⟨k, b, hk, rfl, rfl, rfl, hR⟩ := hrel
    have hn9 := HN2.out
    by_cases hlt : k < n
    · have hkl : k < l.length := by have := HN.out; omega
      obtain ⟨bb, off, rfl, c0⟩ := HL.out.at hkl
      have hd := drop_at hkl
      obtain ⟨v, hv⟩ : ∃ v, v = l.getD k 0 := ⟨_, rfl⟩
      rw [← hv] at c0 hd
      have HV := Lib.hid hv
      have HD := Lib.hid hd
      have nl : k + 1 < n → l.drop (k + 1) ≠ [] := fun h e => by
        have := congrArg List.length e
        have h9 := HN.out
        simp at this; omega
      have nl2 : ¬ k + 1 < n → l.drop (k + 1) = [] := fun h => List.drop_eq_nil_of_le (by have := HN.out; omega)
      have NL := Lib.hid nl
      have NL2 := Lib.hid nl2
      have hw : IntKind.i64.wrap ((n : Int) - 1) = (n : Int) - 1 := by rw [IntWalk.i64_left]; unfold wrap64; omega
      clear hv hd nl nl2 hkl
      by_cases h1 : v = -1
      · subst h1
        by_cases h2 : k + 1 = n
        · subst h2
          have h3 : IntKind.i64.wrap (((k + 1 : Nat) : Int) - 1) = (k : Int) := by rw [IntWalk.i64_left]; unfold wrap64; omega
          clear hw
          go_wp2_with fail
          go_ret
          exact ⟨by rw [← hR.out, HD.out, rise, if_pos ⟨rfl, NL2.out (by omega)⟩]; rfl, rfl⟩
        · have h3 : ¬ (k : Int) = (n : Int) - 1 := by omega
          have h3b : ((k : Int) == (n : Int) - 1) = false := by simp; omega
          have h4 := NL.out (by omega)
          by_cases h5 : (-1 : Int) < b
          · go_wp2_with fail
            go_ret
            exact ⟨by rw [← hR.out, HD.out, rise, if_neg (fun h => h4 h.2), if_pos h5]; rfl, rfl⟩
          · go_wp2_with fail
            go_roundw
            case rel => exact ⟨k + 1, -1, by omega, rfl, by go_num, by first | rfl | trivial, by rw [← hR.out, HD.out, rise, if_neg (fun h => h4 h.2), if_neg h5]; exact Lib.hid rfl⟩
            case measure => simp [intOf]; omega
      · by_cases h5 : v < b
        · go_wp2_with fail
          go_ret
          exact ⟨by rw [← hR.out, HD.out, rise, if_neg (fun h => h1 h.1), if_pos h5]; rfl, rfl⟩
        · go_wp2_with fail
          go_roundw
          case rel => exact ⟨k + 1, v, by omega, rfl, by go_num, by first | rfl | trivial, by rw [← hR.out, HD.out, rise, if_neg (fun h => h1 h.1), if_neg h5]; exact Lib.hid rfl⟩
          case measure => simp [intOf]; omega
    · obtain rfl : k = n := by omega
      have hd : l.drop k = [] := List.drop_eq_nil_of_le (by have := HN.out; omega)
      go_wp2_with fail
      go_ret
      exact ⟨by rw [← hR.out, hd]; rfl, rfl⟩
end Go.Proofs.Ytkohdiajpdlkjaa
