/-
  Layer 27: Append whole, code and reference; what is read of a synchronization marker, in mathematics.
-/
import Derived.Test.YtpnnmibdboelpaaCh
import Derived.Test.YtpnnmibdboelpaaCi
import Derived.Test.YtpnnmibdboelpaaCj
set_option maxRecDepth 100000
namespace Go.Proofs.Ytpnnmibdboelpaa
open Go.RowKit

set_option maxHeartbeats 2000000 in
theorem rappend_no (i j k l : Int) (bs hd bd : List Int) (s sh sb : Option Addr) (m mh mb : Nat) (sy fe : Bool) (q : Int) (w : World) (hq : seqB q = false) :
    Calls Try.prog 12 #[.slice s bs.length m, .agg (pkV i j k l hd bd sh sb mh mb), .bool sy, .bool fe, .int .i64 q] w (GivesBE [] 2 w) := by
  unfold pkV
  obtain ⟨W0, hW0⟩ : ∃ W0, W0 = w.alloc (.cells #[.int .i64 i, .int .i64 j, .int .i64 k, .int .i64 l, .slice sh hd.length mh, .slice sb bd.length mb] 29) := ⟨_, rfl⟩
  have HB := Lib.hid (show Below w.heap.size w W0 by rw [hW0]; exact (Below.refl _ _).alloc (Nat.le_refl _) _)
  have HW0 := Lib.hid hW0
  clear hW0
  by_cases h0 : q < 0
  · have d1 : decide (q < 0) = true := decide_eq_true h0
    clear hq
    go_enter Try.func12, Try.ntmps12
    go_upto_region 1 with fail
    rw [← HW0.out]
    go_wp2_with fail
    go_ret2
    exact ⟨_, rfl, World.ownsRow_nil _ _ _ _, HB.out⟩
  · have d1 : decide (q < 0) = false := decide_eq_false h0
    have d2 : decide (65535 < q) = true := by simp [seqB] at hq; simp; omega
    clear hq
    go_enter Try.func12, Try.ntmps12
    go_upto_region 1 with fail
    rw [← HW0.out]
    go_wp2_with fail
    go_ret2
    exact ⟨_, rfl, World.ownsRow_nil _ _ _ _, HB.out⟩
theorem append_c (i j k l : Int) (bs hd bd : List Int) (s sh sb : Option Addr) (m mh mb : Nat) (sy fe : Bool) (q : Int) (w : World) (hP : PkA w bs hd bd s sh sb m mh mb) :
    Calls Try.prog 11 #[.slice s bs.length m, .agg (pkV i j k l hd bd sh sb mh mb), .bool sy, .bool fe, .int .i64 q] w (GivesBE (pka bs hd bd sy fe q) (pkE q) w) := by
  cases hq : seqB q
  · rw [show pka bs hd bd sy fe q = [] by rw [pka, if_neg (by simp [hq])], show pkE q = 2 by rw [pkE, if_neg (by simp [hq])]]
    exact append_no i j k l bs hd bd s sh sb m mh mb sy fe q w hP hq
  · rw [show pkE q = 0 by rw [pkE, if_pos hq]]
    cases sy <;> cases fe
    · exact append_00 i j k l bs hd bd s sh sb m mh mb q w hP hq
    · exact append_01 i j k l bs hd bd s sh sb m mh mb q w hP hq
    · exact append_10 i j k l bs hd bd s sh sb m mh mb q w hP hq
    · exact append_11 i j k l bs hd bd s sh sb m mh mb q w hP hq
theorem rappend_c (i j k l : Int) (bs hd bd : List Int) (s sh sb : Option Addr) (m mh mb : Nat) (sy fe : Bool) (q : Int) (w : World) (hP : PkA w bs hd bd s sh sb m mh mb) :
    Calls Try.prog 12 #[.slice s bs.length m, .agg (pkV i j k l hd bd sh sb mh mb), .bool sy, .bool fe, .int .i64 q] w (GivesBE (pka bs hd bd sy fe q) (pkE q) w) := by
  cases hq : seqB q
  · rw [show pka bs hd bd sy fe q = [] by rw [pka, if_neg (by simp [hq])], show pkE q = 2 by rw [pkE, if_neg (by simp [hq])]]
    exact rappend_no i j k l bs hd bd s sh sb m mh mb sy fe q w hq
  · rw [show pkE q = 0 by rw [pkE, if_pos hq]]
    cases sy <;> cases fe
    · exact rappend_00 i j k l bs hd bd s sh sb m mh mb q w hP hq
    · exact rappend_01 i j k l bs hd bd s sh sb m mh mb q w hP hq
    · exact rappend_10 i j k l bs hd bd s sh sb m mh mb q w hP hq
    · exact rappend_11 i j k l bs hd bd s sh sb m mh mb q w hP hq
end Go.Proofs.Ytpnnmibdboelpaa
