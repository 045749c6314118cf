/-
  Layer 28: contract of the reference's All.
-/
import Derived.Test.YtagfmmkhgggfmaaMu
set_option maxRecDepth 100000
namespace Go.Proofs.Ytagfmmkhgggfmaa
open Go.RowKit

set_option maxHeartbeats 1000000 in
theorem rall_c (bs : List Int) (s : Option Addr) (m : Nat) (a : Int) (w : World) (hH : HoldsB w s bs) (hB : Mk.bytes bs) (hm : bs.length ≤ m) (hl : bs.length ≤ 1000000) (hl2 : m ≤ maxLen) :
    Calls Try.prog 20 #[.slice s bs.length m, .int .i64 a] w (GivesAl (Mk.al bs (bs.length + 1) a) w) := by
  have HA := Lib.hid (AlAt.start bs a)
  obtain ⟨res, hres⟩ : ∃ r, r = Mk.al bs (bs.length + 1) a := ⟨_, rfl⟩
  rw [← hres] at HA
  rw [← hres]
  have HH := Lib.hid hH
  have HB := Lib.hid hB
  have HR := Lib.hid (RwS.nil w.heap.size w (Nat.le_refl _))
  clear hres hH hB
  go_enter Try.func20, Try.ntmps20
  go_wp2_with fail
  go_loopw [1, 4] (fun at_ lv wr => ∃ (F : Nat) (b : Int) (acc : List (Int × List Int)) (Q : List (Int × Value)), at_ = .int .i64 b ∧ Hid (AlAt bs res F b acc) ∧ Hid (RwS w.heap.size w lv Q acc wr)) (fun at_ _ _ => bs.length + 1 - (intOf at_).toNat)
  case atStart => exact ⟨bs.length + 1, a, [], [], rfl, HA, HR⟩
  case round =>
    obtain ⟨F, b, acc, Q, rfl, hA, hR⟩ := hrel
    clear HA HR
    have HH2 := Lib.hid (HH.out.below hR.out.below (Nat.le_refl _))
    have KU := Lib.hid (fun (W : World) (h : HoldsB W s bs) => rreadUint_c bs s m b 2 W h HB.out hm hl2)
    have kr := rread_c bs s m b wr HH2.out HB.out hm hl hl2
    rcases ends_forms bs b with ⟨hE, he⟩ | ⟨hE, hC, he⟩ | ⟨hE, hC, he⟩ | ⟨hE, hC, he⟩ | ⟨hE, h1, h2, h3, he⟩
    · have hr : (Mk.rs bs b).e ≠ 0 := by
        unfold Mk.rs
        rw [if_pos hE]
        exact hE
      have hq : (Mk.rdE bs b 2 == 0) = false := by simpa using hE
      clear hE
      have hd := hA.out.fail he hr
      subst hd
      clear hA he
      generalize Mk.rs bs b = r at *
      obtain ⟨c, p, n, e⟩ := r
      simp only at hr
      have b1 : (e == 0) = false := by simpa using hr
      have b2 : (e != 0) = true := by simpa using hr
      clear hr
      go_upto_region 2 with (first | (go_at_call 18; (with_reducible refine kr.mono ?_); rintro e w1 ⟨v1, rfl, ho, hb⟩; obtain ⟨_, s1, m1, rfl, _, _, _⟩ := HoldsB.of_own ho; have HO1 := Lib.hid ho; have HB1 := Lib.hid hb; clear ho hb kr) | fail)
      have HR1 := Lib.hid ((hR.out.call HB1.out).alloc (.cells #[.int .i64 c, .slice s1 p.length m1] 26))
      have HH3 := Lib.hid ((HH2.out.call HB1.out).call ((Below.refl _ _).alloc (Nat.le_refl _) (.cells #[.int .i64 c, .slice s1 p.length m1] 26)))
      have HO2 := Lib.hid (own_up (own_below HO1.out ((Below.refl _ _).alloc (Nat.le_refl _) (.cells #[.int .i64 c, .slice s1 p.length m1] 26))) hR.out.below.size)
      have HK := Lib.hid (Blk.new w1 26 #[.int .i64 c, .slice s1 p.length m1])
      clear HO1 HB1
      obtain ⟨c0, c1⟩ := HK.out.two
      generalize w1.alloc (.cells #[.int .i64 c, .slice s1 p.length m1] 26) = W1 at *
      generalize w1.heap.size = g1 at *
      have ku := KU.out W1 HH3.out
      have KKU := Lib.hid ku
      clear ku
      have ku := KKU.out
      generalize Mk.rdE bs b 2 = E at *
      generalize Mk.rdV bs b 2 = C at *
      go_wp2_with (first | (go_at_call 26; (with_reducible refine ku.mono ?_); rintro e wn ⟨rfl, rfl⟩) | fail)
      go_ret3
      exact ⟨_, [], rfl, World.ownsRow_nil _ _ _ _, Sgs.nil _ _, HR1.out.below⟩
    · have hd := hA.out.done he
      subst hd
      clear hA he
      generalize Mk.rs bs b = r at *
      obtain ⟨c, p, n, e⟩ := r
      go_upto_region 2 with (first | (go_at_call 18; (with_reducible refine kr.mono ?_); rintro e w1 ⟨v1, rfl, ho, hb⟩; obtain ⟨_, s1, m1, rfl, _, _, _⟩ := HoldsB.of_own ho; have HO1 := Lib.hid ho; have HB1 := Lib.hid hb; clear ho hb kr) | fail)
      have HR1 := Lib.hid ((hR.out.call HB1.out).alloc (.cells #[.int .i64 c, .slice s1 p.length m1] 26))
      have HH3 := Lib.hid ((HH2.out.call HB1.out).call ((Below.refl _ _).alloc (Nat.le_refl _) (.cells #[.int .i64 c, .slice s1 p.length m1] 26)))
      have HO2 := Lib.hid (own_up (own_below HO1.out ((Below.refl _ _).alloc (Nat.le_refl _) (.cells #[.int .i64 c, .slice s1 p.length m1] 26))) hR.out.below.size)
      have HK := Lib.hid (Blk.new w1 26 #[.int .i64 c, .slice s1 p.length m1])
      clear HO1 HB1
      obtain ⟨c0, c1⟩ := HK.out.two
      generalize w1.alloc (.cells #[.int .i64 c, .slice s1 p.length m1] 26) = W1 at *
      generalize w1.heap.size = g1 at *
      have ku := KU.out W1 HH3.out
      have KKU := Lib.hid ku
      clear ku
      have ku := KKU.out
      rw [hE, hC] at ku
      clear hE hC
      go_wp2_with (first | (go_at_call 26; (with_reducible refine ku.mono ?_); rintro e wn ⟨rfl, rfl⟩) | fail)
      go_ret3
      exact ⟨_, Q, rfl, HR1.out.own, HR1.out.els, HR1.out.below⟩
    · have hd := hA.out.done he
      subst hd
      clear hA he
      generalize Mk.rs bs b = r at *
      obtain ⟨c, p, n, e⟩ := r
      go_upto_region 2 with (first | (go_at_call 18; (with_reducible refine kr.mono ?_); rintro e w1 ⟨v1, rfl, ho, hb⟩; obtain ⟨_, s1, m1, rfl, _, _, _⟩ := HoldsB.of_own ho; have HO1 := Lib.hid ho; have HB1 := Lib.hid hb; clear ho hb kr) | fail)
      have HR1 := Lib.hid ((hR.out.call HB1.out).alloc (.cells #[.int .i64 c, .slice s1 p.length m1] 26))
      have HH3 := Lib.hid ((HH2.out.call HB1.out).call ((Below.refl _ _).alloc (Nat.le_refl _) (.cells #[.int .i64 c, .slice s1 p.length m1] 26)))
      have HO2 := Lib.hid (own_up (own_below HO1.out ((Below.refl _ _).alloc (Nat.le_refl _) (.cells #[.int .i64 c, .slice s1 p.length m1] 26))) hR.out.below.size)
      have HK := Lib.hid (Blk.new w1 26 #[.int .i64 c, .slice s1 p.length m1])
      clear HO1 HB1
      obtain ⟨c0, c1⟩ := HK.out.two
      generalize w1.alloc (.cells #[.int .i64 c, .slice s1 p.length m1] 26) = W1 at *
      generalize w1.heap.size = g1 at *
      have ku := KU.out W1 HH3.out
      have KKU := Lib.hid ku
      clear ku
      have ku := KKU.out
      rw [hE, hC] at ku
      clear hE hC
      go_wp2_with (first | (go_at_call 26; (with_reducible refine ku.mono ?_); rintro e wn ⟨rfl, rfl⟩) | fail)
      go_ret3
      exact ⟨_, Q, rfl, HR1.out.own, HR1.out.els, HR1.out.below⟩
    · have hd := hA.out.done he
      subst hd
      clear hA he
      generalize Mk.rs bs b = r at *
      obtain ⟨c, p, n, e⟩ := r
      go_upto_region 2 with (first | (go_at_call 18; (with_reducible refine kr.mono ?_); rintro e w1 ⟨v1, rfl, ho, hb⟩; obtain ⟨_, s1, m1, rfl, _, _, _⟩ := HoldsB.of_own ho; have HO1 := Lib.hid ho; have HB1 := Lib.hid hb; clear ho hb kr) | fail)
      have HR1 := Lib.hid ((hR.out.call HB1.out).alloc (.cells #[.int .i64 c, .slice s1 p.length m1] 26))
      have HH3 := Lib.hid ((HH2.out.call HB1.out).call ((Below.refl _ _).alloc (Nat.le_refl _) (.cells #[.int .i64 c, .slice s1 p.length m1] 26)))
      have HO2 := Lib.hid (own_up (own_below HO1.out ((Below.refl _ _).alloc (Nat.le_refl _) (.cells #[.int .i64 c, .slice s1 p.length m1] 26))) hR.out.below.size)
      have HK := Lib.hid (Blk.new w1 26 #[.int .i64 c, .slice s1 p.length m1])
      clear HO1 HB1
      obtain ⟨c0, c1⟩ := HK.out.two
      generalize w1.alloc (.cells #[.int .i64 c, .slice s1 p.length m1] 26) = W1 at *
      generalize w1.heap.size = g1 at *
      have ku := KU.out W1 HH3.out
      have KKU := Lib.hid ku
      clear ku
      have ku := KKU.out
      rw [hE, hC] at ku
      clear hE hC
      go_wp2_with (first | (go_at_call 26; (with_reducible refine ku.mono ?_); rintro e wn ⟨rfl, rfl⟩) | fail)
      go_ret3
      exact ⟨_, Q, rfl, HR1.out.own, HR1.out.els, HR1.out.below⟩
    · have b7 : (Mk.rdV bs b 2 == 65456) = false := by simpa using h1
      have b8 : (Mk.rdV bs b 2 == 65458) = false := by simpa using h2
      have b9 : (Mk.rdV bs b 2 == 65455) = false := by simpa using h3
      clear h1 h2 h3
      by_cases hr : (Mk.rs bs b).e = 0
      · have HS := Lib.hid (hA.out.step he hr)
        have hn := Mk.rs_next hr
        have HL := Lib.hid (show Q.length ≤ 1000000 by have := few_len hA.out hr; have := hR.out.els.len; omega)
        clear hA he
        generalize Mk.rs bs b = r at *
        obtain ⟨c, p, n, e⟩ := r
        simp only at hr hn HS
        subst hr
        go_upto_region 2 with (first | (go_at_call 18; (with_reducible refine kr.mono ?_); rintro e w1 ⟨v1, rfl, ho, hb⟩; obtain ⟨_, s1, m1, rfl, _, _, _⟩ := HoldsB.of_own ho; have HO1 := Lib.hid ho; have HB1 := Lib.hid hb; clear ho hb kr) | fail)
        have HR1 := Lib.hid ((hR.out.call HB1.out).alloc (.cells #[.int .i64 c, .slice s1 p.length m1] 26))
        have HH3 := Lib.hid ((HH2.out.call HB1.out).call ((Below.refl _ _).alloc (Nat.le_refl _) (.cells #[.int .i64 c, .slice s1 p.length m1] 26)))
        have HO2 := Lib.hid (own_up (own_below HO1.out ((Below.refl _ _).alloc (Nat.le_refl _) (.cells #[.int .i64 c, .slice s1 p.length m1] 26))) hR.out.below.size)
        have HK := Lib.hid (Blk.new w1 26 #[.int .i64 c, .slice s1 p.length m1])
        clear HO1 HB1
        obtain ⟨c0, c1⟩ := HK.out.two
        generalize w1.alloc (.cells #[.int .i64 c, .slice s1 p.length m1] 26) = W1 at *
        generalize w1.heap.size = g1 at *
        have ku := KU.out W1 HH3.out
        have KKU := Lib.hid ku
        clear ku
        have ku := KKU.out
        rw [hE] at ku
        clear hE
        generalize Mk.rdV bs b 2 = C at *
        go_wp2_with (first | (go_at_call 26; (with_reducible refine ku.mono ?_); rintro e wn ⟨rfl, rfl⟩) | (at_builtin; refine wpAppS rfl _ _ rfl w.heap.size _ Q acc rfl (HR1.out.alloc _) W1.heap.size 1 c (.slice s1 p.length m1) p rfl (Blk.two (Blk.new W1 26 #[.int .i64 c, .slice s1 p.length m1])).1 (Blk.two (Blk.new W1 26 #[.int .i64 c, .slice s1 p.length m1])).2 (own_below HO2.out ((Below.refl _ _).alloc (Nat.le_refl _) _)) (by have := HL.out; omega) ?_; intro v2 w2 HR2) | fail)
        go_roundw
        case rel => exact ⟨F - 1, n, _, _, rfl, HS, HR2⟩
        case measure => simp [intOf]; omega
      · have hd := hA.out.fail he hr
        subst hd
        clear hA he
        generalize Mk.rs bs b = r at *
        obtain ⟨c, p, n, e⟩ := r
        simp only at hr
        have b1 : (e == 0) = false := by simpa using hr
        have b2 : (e != 0) = true := by simpa using hr
        clear hr
        go_upto_region 2 with (first | (go_at_call 18; (with_reducible refine kr.mono ?_); rintro e w1 ⟨v1, rfl, ho, hb⟩; obtain ⟨_, s1, m1, rfl, _, _, _⟩ := HoldsB.of_own ho; have HO1 := Lib.hid ho; have HB1 := Lib.hid hb; clear ho hb kr) | fail)
        have HR1 := Lib.hid ((hR.out.call HB1.out).alloc (.cells #[.int .i64 c, .slice s1 p.length m1] 26))
        have HH3 := Lib.hid ((HH2.out.call HB1.out).call ((Below.refl _ _).alloc (Nat.le_refl _) (.cells #[.int .i64 c, .slice s1 p.length m1] 26)))
        have HO2 := Lib.hid (own_up (own_below HO1.out ((Below.refl _ _).alloc (Nat.le_refl _) (.cells #[.int .i64 c, .slice s1 p.length m1] 26))) hR.out.below.size)
        have HK := Lib.hid (Blk.new w1 26 #[.int .i64 c, .slice s1 p.length m1])
        clear HO1 HB1
        obtain ⟨c0, c1⟩ := HK.out.two
        generalize w1.alloc (.cells #[.int .i64 c, .slice s1 p.length m1] 26) = W1 at *
        generalize w1.heap.size = g1 at *
        have ku := KU.out W1 HH3.out
        have KKU := Lib.hid ku
        clear ku
        have ku := KKU.out
        rw [hE] at ku
        clear hE
        generalize Mk.rdV bs b 2 = C at *
        go_wp2_with (first | (go_at_call 26; (with_reducible refine ku.mono ?_); rintro e wn ⟨rfl, rfl⟩) | fail)
        go_ret3
        exact ⟨_, [], rfl, World.ownsRow_nil _ _ _ _, Sgs.nil _ _, HR1.out.below⟩
end Go.Proofs.Ytagfmmkhgggfmaa
