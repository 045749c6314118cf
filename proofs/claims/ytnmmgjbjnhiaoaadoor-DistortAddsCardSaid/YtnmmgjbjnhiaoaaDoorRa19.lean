/-
  What each call of the small functions of layer 1 returns and leaves: contracts, callees first.
-/
import Derived.Test.YtnmmgjbjnhiaoaaDoorRows
import Derived.Test.YtnmmgjbjnhiaoaaDoorPlain
import Derived.Test.YtnmmgjbjnhiaoaaDoorKit
import Derived.WalkKit
import Derived.WalkSpells
import Derived.WalkLawsBesides
import Derived.Deep.QuietTactic
import Derived.BigQuiet
set_option maxRecDepth 100000
namespace Go.Proofs.YtnmmgjbjnhiaoaaDoor
open Go.RowKit

theorem bcell {W w1 : World} (hb : Below W.heap.size W w1) : (∀ b o, b < W.heap.size → w1.cell? ⟨b, o, none⟩ = W.cell? ⟨b, o, none⟩) ∧ (∀ b o, b < W.heap.size → w1.frozen? ⟨b, o, none⟩ = W.frozen? ⟨b, o, none⟩) :=
  ⟨fun b o h => hb.cell (p := ⟨b, o, none⟩) h, fun b o h => hb.frozen (p := ⟨b, o, none⟩) h⟩

set_option maxHeartbeats 400000 in
theorem cd_c (a b : Int) (w : World) (h0 : -9223372036854775808 ≤ a) (h1 : a ≤ 9223372036854775807) :
    Calls Tryd.prog 42 #[.int .i64 a, .int .i64 b] w fun e w' => e = .returned (.int .i64 (Pl.cd a b)) ∧ w = w' := by
  go_enter Tryd.func42, Tryd.ntmps42
  by_cases hb : b < 1
  · go_wp2
    go_ret
    exact ⟨ret_int (by simp [Pl.cd, hb]), rfl⟩
  · by_cases hm : 0 < a.tmod b
    · have H : Hid _ := Pl.cd_wrap (by omega) h0 h1 hm
      go_wp2
      go_ret
      exact ⟨ret_int (by rw [Pl.cd, if_neg (Int.not_lt.2 hb), if_pos hm]; exact H.out), rfl⟩
    · go_wp2
      go_ret
      exact ⟨ret_int (by rw [Pl.cd, if_neg (Int.not_lt.2 hb), if_neg (Int.not_lt.2 hm)]), rfl⟩
set_option maxHeartbeats 400000 in
theorem fd_r (a b : Int) (w : World) (h0 : -9223372036854775808 ≤ a) (h1 : a ≤ 9223372036854775807) :
    Calls Tryd.prog 33 #[.int .i64 a, .int .i64 b] w fun e w' => e = .returned (.int .i64 (Pl.fd a b)) ∧ w = w' := by
  go_enter Tryd.func33, Tryd.ntmps33
  by_cases hb : b < 1
  · go_wp2
    go_ret
    exact ⟨ret_int (by simp [Pl.fd, hb]), rfl⟩
  · by_cases hm : a.tmod b < 0
    · have H : Hid _ := Pl.fd_wrap (by omega) h0 h1 hm
      go_wp2
      go_ret
      exact ⟨ret_int (by rw [Pl.fd, if_neg (Int.not_lt.2 hb), if_pos hm]; exact H.out), rfl⟩
    · go_wp2
      go_ret
      exact ⟨ret_int (by rw [Pl.fd, if_neg (Int.not_lt.2 hb), if_neg (Int.not_lt.2 hm)]), rfl⟩
end Go.Proofs.YtnmmgjbjnhiaoaaDoor
