/-
  Layer 28: contract of the code's All.
-/
import Derived.Test.YtagfmmkhgggfmaaMt
set_option maxRecDepth 100000
namespace Go.Proofs.Ytagfmmkhgggfmaa
open Go.RowKit

namespace Mk
theorem put_nil (x : Al) (h : x.e ≠ 0 → x = ⟨[], 0, x.e⟩) : x.put [] = x := by
  unfold Al.put
  by_cases h0 : x.e = 0
  · rw [if_pos h0]; cases x; simp at h0; simp [h0]
  · rw [if_neg h0]; exact (h h0).symm
theorem put_put (x : Al) (a b : List (Int × List Int)) : (x.put a).put b = x.put (b ++ a) := by
  unfold Al.put
  by_cases h0 : x.e = 0
  · simp [h0]
  · simp [h0]
theorem al_form (bs : List Int) (F : Nat) (a : Int) : (al bs F a).e ≠ 0 → al bs F a = ⟨[], 0, (al bs F a).e⟩ := by
  cases F with
  | zero => intro h; simp [al] at h
  | succ F =>
    unfold al
    by_cases h1 : ends bs a = true
    · rw [if_pos h1]; intro h; simp at h
    · rw [if_neg h1]
      by_cases h2 : (rs bs a).e ≠ 0
      · rw [if_pos h2]; intro _; rfl
      · rw [if_neg h2]
        unfold Al.put
        by_cases h3 : (al bs F (rs bs a).n).e = 0
        · rw [if_pos h3]; intro h; simp at h
        · rw [if_neg h3]; intro _; rfl
theorem al_end {bs : List Int} {F : Nat} {a : Int} (h : ends bs a = true) (acc : List (Int × List Int)) : (al bs (F + 1) a).put acc = ⟨acc, a, 0⟩ := by
  rw [al, if_pos h]; simp [Al.put]
theorem al_err {bs : List Int} {F : Nat} {a : Int} (h : ends bs a = false) (h2 : (rs bs a).e ≠ 0) (acc : List (Int × List Int)) : (al bs (F + 1) a).put acc = ⟨[], 0, (rs bs a).e⟩ := by
  rw [al, if_neg (by simp [h]), if_pos h2]; simp [Al.put, h2]
theorem al_step {bs : List Int} {F : Nat} {a : Int} (h : ends bs a = false) (h2 : (rs bs a).e = 0) (acc : List (Int × List Int)) : (al bs (F + 1) a).put acc = (al bs F (rs bs a).n).put (acc ++ [((rs bs a).c, (rs bs a).p)]) := by
  rw [al, if_neg (by simp [h]), if_neg (by simp [h2]), put_put]
end Mk
/-- A list of segments, an offset, an error. -/
def GivesAl (r : Mk.Al) (w : World) (e : Ending) (w' : World) : Prop := ∃ v Q, e = .returned (.tuple #[v, .int .i64 r.n, .int .i64 r.e]) ∧ w'.ownsRow w.heap.size 26 2 v Q.length (Q.flatMap sgV) ∧ Sgs w' w.heap.size Q r.l ∧ Below w.heap.size w w'
/-- How far a list has been read. -/
structure AlAt (bs : List Int) (res : Mk.Al) (F : Nat) (a : Int) (acc : List (Int × List Int)) : Prop where
  eq : (Mk.al bs F a).put acc = res
  fuel : 1 ≤ F
  room : bs.length < a.toNat + F
  few : 2 * acc.length ≤ a.toNat
theorem rs_bytes {bs : List Int} {a : Int} : (Mk.rs bs a).e = 0 → 0 ≤ a ∧ a + 2 ≤ (Mk.rs bs a).n ∧ (Mk.rs bs a).n ≤ bs.length := Mk.rs_next
theorem AlAt.step {bs : List Int} {res : Mk.Al} {F : Nat} {a : Int} {acc : List (Int × List Int)} (h : AlAt bs res F a acc) (h1 : Mk.ends bs a = false) (h2 : (Mk.rs bs a).e = 0) :
    AlAt bs res (F - 1) (Mk.rs bs a).n (acc ++ [((Mk.rs bs a).c, (Mk.rs bs a).p)]) := by
  obtain ⟨k1, k2, k3⟩ := Mk.rs_next h2
  have hr := h.room
  have hf := h.few
  obtain ⟨G, rfl⟩ : ∃ G, F = G + 1 := ⟨F - 1, by have := h.fuel; omega⟩
  refine ⟨?_, by omega, by omega, by simp; omega⟩
  rw [Nat.add_sub_cancel, ← Mk.al_step h1 h2]
  exact h.eq
theorem AlAt.done {bs : List Int} {res : Mk.Al} {F : Nat} {a : Int} {acc : List (Int × List Int)} (h : AlAt bs res F a acc) (h1 : Mk.ends bs a = true) : res = ⟨acc, a, 0⟩ := by
  obtain ⟨G, rfl⟩ : ∃ G, F = G + 1 := ⟨F - 1, by have := h.fuel; omega⟩
  rw [← h.eq, Mk.al_end h1]
theorem AlAt.fail {bs : List Int} {res : Mk.Al} {F : Nat} {a : Int} {acc : List (Int × List Int)} (h : AlAt bs res F a acc) (h1 : Mk.ends bs a = false) (h2 : (Mk.rs bs a).e ≠ 0) : res = ⟨[], 0, (Mk.rs bs a).e⟩ := by
  obtain ⟨G, rfl⟩ : ∃ G, F = G + 1 := ⟨F - 1, by have := h.fuel; omega⟩
  rw [← h.eq, Mk.al_err h1 h2]
theorem AlAt.start (bs : List Int) (a : Int) : AlAt bs (Mk.al bs (bs.length + 1) a) (bs.length + 1) a [] :=
  ⟨Mk.put_nil _ (Mk.al_form _ _ _), by omega, by omega, by simp⟩
theorem few_len {bs : List Int} {res : Mk.Al} {F : Nat} {a : Int} {acc : List (Int × List Int)} (h : AlAt bs res F a acc) (h2 : (Mk.rs bs a).e = 0) : acc.length ≤ bs.length := by
  obtain ⟨k1, k2, k3⟩ := Mk.rs_next h2
  have := h.few
  omega
set_option maxHeartbeats 1000000 in
theorem all_c (bs : List Int) (s : Option Addr) (m : Nat) (a : Int) (w : World) (hH : HoldsB w s bs) (hB : Mk.bytes bs) (hm : bs.length ≤ m) (hl : bs.length ≤ 1000000) (hl2 : m ≤ maxLen) :
    Calls Try.prog 19 #[.slice s bs.length m, .int .i64 a] w (GivesAl (Mk.al bs (bs.length + 1) a) w) := by
  have HA := Lib.hid (AlAt.start bs a)
  obtain ⟨res, hres⟩ : ∃ r, r = Mk.al bs (bs.length + 1) a := ⟨_, rfl⟩
  rw [← hres] at HA
  rw [← hres]
  have HH := Lib.hid hH
  have HB := Lib.hid hB
  have HR := Lib.hid (RwS.nil w.heap.size w (Nat.le_refl _))
  obtain ⟨z0, hz0⟩ : ∃ z : List (Int × List Int), z = [] := ⟨_, rfl⟩
  clear hres hH hB
  go_enter Try.func19, Try.ntmps19
  go_wp2_with fail
  go_loopw [1, 4] (fun at_ lv wr => ∃ (F : Nat) (b : Int) (acc : List (Int × List Int)) (Q : List (Int × Value)), at_ = .int .i64 b ∧ Hid (AlAt bs res F b acc) ∧ Hid (RwS w.heap.size w lv Q acc wr)) (fun at_ _ _ => bs.length + 1 - (intOf at_).toNat)
  case atStart => exact ⟨bs.length + 1, a, [], [], rfl, HA, HR⟩
  case round =>
    obtain ⟨F, b, acc, Q, rfl, hA, hR⟩ := hrel
    clear HA HR
    have HH2 := Lib.hid (HH.out.below hR.out.below (Nat.le_refl _))
    have ke := ends_c bs s m b wr HH2.out HB.out hm hl2
    have kr := read_c bs s m b wr HH2.out HB.out hm hl hl2
    cases hE : Mk.ends bs b
    · rw [hE] at ke
      have HE := Lib.hid hE
      clear hE
      by_cases hr : (Mk.rs bs b).e = 0
      · have HS := Lib.hid (hA.out.step HE.out hr)
        have hn := Mk.rs_next hr
        have HL := Lib.hid (show Q.length ≤ 1000000 by have := few_len hA.out hr; have := hR.out.els.len; omega)
        clear hA
        generalize Mk.rs bs b = r at *
        obtain ⟨c, p, n, e⟩ := r
        simp only at hr hn HS
        subst hr
        go_upto_region 3 with (first | (go_at_call 30; (with_reducible refine ke.mono ?_); rintro e wn ⟨rfl, rfl⟩) | (go_at_call 17; (with_reducible refine kr.mono ?_); rintro e w1 ⟨v1, rfl, ho, hb⟩; obtain ⟨_, s1, m1, rfl, _, _, _⟩ := HoldsB.of_own ho; have HO1 := Lib.hid ho; have HB1 := Lib.hid hb; clear ho hb kr) | fail)
        have HR1 := Lib.hid ((hR.out.call HB1.out).alloc (.cells #[.int .i64 c, .slice s1 p.length m1] 26))
        have HO2 := Lib.hid (own_up (own_below HO1.out ((Below.refl _ _).alloc (Nat.le_refl _) (.cells #[.int .i64 c, .slice s1 p.length m1] 26))) hR.out.below.size)
        have HK := Lib.hid (Blk.new w1 26 #[.int .i64 c, .slice s1 p.length m1])
        clear hR HO1 HB1
        obtain ⟨c0, c1⟩ := HK.out.two
        generalize w1.alloc (.cells #[.int .i64 c, .slice s1 p.length m1] 26) = W1 at *
        generalize w1.heap.size = g1 at *
        go_wp2_with (first | (at_builtin; refine wpAppS rfl _ _ rfl w.heap.size _ Q acc rfl (HR1.out.alloc _) W1.heap.size 1 c (.slice s1 p.length m1) p rfl (Blk.two (Blk.new W1 26 #[.int .i64 c, .slice s1 p.length m1])).1 (Blk.two (Blk.new W1 26 #[.int .i64 c, .slice s1 p.length m1])).2 (own_below HO2.out ((Below.refl _ _).alloc (Nat.le_refl _) _)) (by have := HL.out; omega) ?_; intro v2 w2 HR2) | fail)
        go_roundw
        case rel => exact ⟨F - 1, n, _, _, rfl, HS, HR2⟩
        case measure => simp [intOf]; omega
      · have hd := hA.out.fail HE.out hr
        subst hd
        clear hA
        generalize Mk.rs bs b = r at *
        obtain ⟨c, p, n, e⟩ := r
        simp only at hr
        have b1 : (e == 0) = false := by simpa using hr
        have b2 : (e != 0) = true := by simpa using hr
        clear hr
        go_wp2_with (first | (go_at_call 30; (with_reducible refine ke.mono ?_); rintro e wn ⟨rfl, rfl⟩) | (go_at_call 17; (with_reducible refine kr.mono ?_); rintro e w1 ⟨v1, rfl, ho, hb⟩; obtain ⟨_, s1, m1, rfl, _, _, _⟩ := HoldsB.of_own ho; have HB1 := Lib.hid hb; clear ho hb kr) | fail)
        go_ret3
        exact ⟨_, [], rfl, World.ownsRow_nil _ _ _ _, Sgs.nil _ _, ((hR.out.call HB1.out).alloc _).below⟩
    · rw [hE] at ke
      have hd := hA.out.done hE
      subst hd
      clear kr hE
      go_wp2_with (first | (go_at_call 30; (with_reducible refine ke.mono ?_); rintro e wn ⟨rfl, rfl⟩) | fail)
      go_ret3
      exact ⟨_, Q, rfl, hR.out.own, hR.out.els, hR.out.below⟩
end Go.Proofs.Ytagfmmkhgggfmaa
