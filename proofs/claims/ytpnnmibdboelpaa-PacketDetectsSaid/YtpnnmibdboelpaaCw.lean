/-
  Layer 27: contract of SameBytes.
-/
import Derived.Test.YtpnnmibdboelpaaCv
set_option maxRecDepth 100000
namespace Go.Proofs.Ytpnnmibdboelpaa
open Go.RowKit

theorem same_c (l : List Int) (s1 s2 : Option Addr) (m1 m2 : Nat) (w : World) (h1 : HoldsB w s1 l) (h2 : HoldsB w s2 l) :
    Calls Try.prog 13 #[.slice s1 l.length m1, .slice s2 l.length m2] w fun e w' => e = .returned (.bool true) ∧ w = w' := by
  have cv1 := conv_b w l s1 m1 h1
  have cv2 := conv_b w l s2 m2 h2
  generalize strOfNums l = S at *
  clear h1 h2
  go_enter Try.func13, Try.ntmps13
  go_wp2_with fail
  go_ret
  exact ⟨by simp, rfl⟩
theorem load_pkt {W : World} {g : Nat} {a b c d e f : Value} (B : Blk W g 29 #[a, b, c, d, e, f]) : W.cell? ⟨g, 0, none⟩ = some a ∧ W.cell? ⟨g, 1, none⟩ = some b ∧ W.cell? ⟨g, 2, none⟩ = some c ∧ W.cell? ⟨g, 3, none⟩ = some d ∧ W.cell? ⟨g, 4, none⟩ = some e ∧ W.cell? ⟨g, 5, none⟩ = some f := ⟨B.cell 0, B.cell 1, B.cell 2, B.cell 3, B.cell 4, B.cell 5⟩
end Go.Proofs.Ytpnnmibdboelpaa
