/-
  Layer 21: contracts of Layers.
-/
import Derived.Test.YtkohdiajpdlkjaaAf
import Derived.Test.YtkohdiajpdlkjaaAu
import Derived.Test.YtkohdiajpdlkjaaAv
import Derived.Test.YtkohdiajpdlkjaaAx
set_option maxRecDepth 100000
namespace Go.Proofs.Ytkohdiajpdlkjaa
open Go.RowKit

theorem infoTI : (Try.prog.info? 25).map (fun i => (i.zero, i.size, i.bytes)) = some (some (.slice none 0 0), 1, 24) := by kernel_rfl
theorem asorted_c : SortedOk := sorted_k
/-- The choice for a budget. -/
def chs (cs : List Cv) (b : Int) : List Int := if b = -1 then lastL cs else wth b 0 (insA cs cs.length) (List.replicate cs.length 0)
theorem chs_len (cs : List Cv) (b : Int) : (chs cs b).length = cs.length := by
  unfold chs
  split
  · simp [lastL]
  · rw [wth_len]; simp
/-- The first k choices are laid. -/
structure Lay (w : World) (g p k : Nat) (vs : List Value) (L : Nat → List Int) : Prop where
  blk : Blk w g 25 vs.toArray
  len : vs.length = p
  own : ∀ j, j < k → ∃ gj, vs.getD j undef = .slice (some ⟨gj, 0, none⟩) (L j).length (L j).length ∧ Blk w gj 3 (cI (L j))
theorem Lay.call {w w1 : World} {g p k : Nat} {vs : List Value} {L : Nat → List Int} (h : Lay w g p k vs L) (hb : Below w.heap.size w w1) : Lay w1 g p k vs L :=
  ⟨h.blk.below hb, h.len, fun j hj => by obtain ⟨gj, e, hg⟩ := h.own j hj; exact ⟨gj, e, hg.below hb⟩⟩
theorem Lay.cell {w : World} {g p k : Nat} {vs : List Value} {L : Nat → List Int} (h : Lay w g p k vs L) {j : Nat} (hj : j < p) : w.cell? ⟨g, j, none⟩ = some (vs.getD j undef) := by
  rw [h.blk.cell j]
  have : j < vs.length := by rw [h.len]; exact hj
  simp [this, List.getD_eq_getElem?_getD]
theorem Lay.put {w : World} {g p k g3 : Nat} {vs : List Value} {L : Nat → List Int} (h : Lay w g p k vs L) (hk : k < p) {l : List Int} (hl : L k = l) (h3 : Blk w g3 3 (cI l)) :
    Lay (w.setCell ⟨g, k, none⟩ (.slice (some ⟨g3, 0, none⟩) l.length l.length)) g p (k + 1) (vs.set k (.slice (some ⟨g3, 0, none⟩) l.length l.length)) L := by
  subst hl
  refine ⟨?_, by rw [List.length_set]; exact h.len, fun j hj => ?_⟩
  · have h1 := h.blk.set k (.slice (some ⟨g3, 0, none⟩) (L k).length (L k).length)
    simpa using h1
  · have hkl : k < vs.length := by rw [h.len]; exact hk
    rw [getD_set']
    by_cases e : k = j
    · subst e
      rw [if_pos ⟨rfl, hkl⟩]
      exact ⟨g3, rfl, h3.far (p := ⟨g, k, none⟩) (fun q => (h.blk.ne h3 (by decide)) q.symm) _⟩
    · rw [if_neg (fun q => e q.1)]
      obtain ⟨gj, e1, hg⟩ := h.own j (by omega)
      exact ⟨gj, e1, hg.far (p := ⟨g, k, none⟩) (fun q => (h.blk.ne hg (by decide)) q.symm) _⟩
theorem okL_of {cs : List Cv} {S : List Stp} (h : okC cs) (hS : isS cs S) : okL cs.length S := by
  refine ⟨?_, fun s hs => ?_⟩
  · rw [hS.1.length_eq]
    have h1 := allS_len h cs.length (Nat.le_refl _)
    have := h.1
    omega
  · have h1 := hS.1.subset hs
    obtain ⟨i, k, hi, hk, rfl⟩ := allS_mem h1
    exact ⟨hi, (allS_ok h (Nat.le_refl _) _ h1).2.2.1⟩
theorem layers_lim (a : Value) (b : Option Addr) (p q : Nat) (W : World) (hp : 16 < p) : Calls Try.prog 11 #[a, .slice b p q] W fun e w' => e = .returned (.tuple #[.slice none 0 0, .int .i64 5]) ∧ w' = W := by
  have h1 : (16 : Int) < (p : Int) := by omega
  go_enter Try.func11, Try.ntmps11
  go_wp2_with fail
  go_ret2
  exact ⟨rfl, rfl⟩
theorem layers_big (a b : Option Addr) (n m p q : Nat) (W : World) (hp : p ≤ 16) (hn : 65536 < n) : Calls Try.prog 11 #[.slice a n m, .slice b p q] W fun e w' => e = .returned (.tuple #[.slice none 0 0, .int .i64 5]) ∧ w' = W := by
  have h1 : ¬ (16 : Int) < (p : Int) := by omega
  have kc := check_big a m n W hn
  clear hn
  go_enter Try.func11, Try.ntmps11
  go_wp2_with (first | (go_at_call 19; (with_reducible refine kc.mono ?_); rintro e w1 ⟨rfl, rfl⟩) | fail)
  go_ret2
  exact ⟨rfl, rfl⟩
theorem layers_bad (a b : Option Addr) (n m p q : Nat) (cs : List Cv) (W : World) (hC : HoldsCv W a cs) (hn : n = cs.length) (hn2 : n ≤ 65536) (hok : ¬ okC cs) (hp : p ≤ 16) : Calls Try.prog 11 #[.slice a n m, .slice b p q] W fun e w' => e = .returned (.tuple #[.slice none 0 0, .int .i64 1]) ∧ Below W.heap.size W w' := by
  have h1 : ¬ (16 : Int) < (p : Int) := by omega
  have kc := check_c a m n cs W hC hn hn2 1 ⟨fun h => absurd h hok, fun _ => rfl⟩
  clear hC hn hn2 hok
  go_enter Try.func11, Try.ntmps11
  go_wp2_with (first | (go_at_call 19; (with_reducible refine kc.mono ?_); rintro e w1 ⟨rfl, hb⟩; have HB := Lib.hid hb; clear hb) | fail)
  go_ret2
  exact ⟨rfl, HB.out⟩
theorem layers_range (a b : Option Addr) (n m p q : Nat) (cs : List Cv) (B : List Int) (W : World) (hC : HoldsCv W a cs) (hn : n = cs.length) (hok : okC cs) (hp : p ≤ 16) (hB : HoldsI W b B) (hpB : p = B.length) (hr : rise 0 B = false) :
    Calls Try.prog 11 #[.slice a n m, .slice b p q] W fun e w' => e = .returned (.tuple #[.slice none 0 0, .int .i64 2]) ∧ Below W.heap.size W w' := by
  have h1 : ¬ (16 : Int) < (p : Int) := by omega
  have kc := check_c a m n cs W hC hn (by have := hok.1; omega) 0 ⟨fun _ => rfl, fun h => absurd hok h⟩
  have kr := fun (w1 : World) (h : Below W.heap.size W w1) => rising_c b q p B w1 (hB.below h (Nat.le_refl _)) hpB (by omega)
  rw [hr] at kr
  have KR := Lib.hid kr
  clear hC hn hok hB hpB hr kr
  go_enter Try.func11, Try.ntmps11
  go_wp2_with (first | (go_at_call 19; (with_reducible refine kc.mono ?_); rintro e w1 ⟨rfl, hb⟩; have HB := Lib.hid hb; have k2 := KR.out _ hb; clear hb kc) | (go_at_call 20; (with_reducible refine k2.mono ?_); rintro e w2 ⟨rfl, rfl⟩) | fail)
  go_ret2
  exact ⟨rfl, HB.out⟩
set_option maxHeartbeats 1000000 in
theorem layers_y (a b : Option Addr) (n m p q : Nat) (cs : List Cv) (B : List Int) (W : World) (hC : HoldsCv W a cs) (hn : n = cs.length) (hok : okC cs) (hp : p ≤ 16) (hB : HoldsI W b B) (hpB : p = B.length) (hr : rise 0 B = true) :
    Calls Try.prog 11 #[.slice a n m, .slice b p q] W fun e w' => ∃ g vs, e = .returned (.tuple #[.slice (some ⟨g, 0, none⟩) p p, .int .i64 0]) ∧ Lay w' g p p vs (fun j => chs cs (B.getD j 0)) ∧ W.heap.size ≤ g ∧ Below W.heap.size W w' := by
  have h1 : ¬ (16 : Int) < (p : Int) := by omega
  have hn2 : n ≤ 65536 := by have := hok.1; omega
  have kc := check_c a m n cs W hC hn hn2 0 ⟨fun _ => rfl, fun h => absurd hok h⟩
  have kr := fun (w1 : World) (h : Below W.heap.size W w1) => rising_c b q p B w1 (hB.below h (Nat.le_refl _)) hpB (by omega)
  rw [hr] at kr
  have ko := fun (w1 : World) (h : Below W.heap.size W w1) => ordered_c asorted_c a m n cs w1 (hC.below h (Nat.le_refl _)) hn hok
  obtain ⟨j0, ji, jz0, jz1, jz2⟩ := info_parts infoTI
  have km := fun w : World => run_make (P := Try.prog) (w := w) (31) 25 j0 (.slice none 0 0) Try.underlying31 ji jz0 .i64 .i64 (p : Int) (p : Int) (by omega) (by omega) (by rw [jz2]; omega) (by omega)
  simp only [jz1, Int.toNat_natCast, madeS] at km
  have KR := Lib.hid kr
  have KO := Lib.hid ko
  have KM := Lib.hid km
  have HC := Lib.hid hC
  have HN := Lib.hid hn
  have HOK := Lib.hid hok
  have HBU := Lib.hid hB
  have HP := Lib.hid hpB
  have HP2 := Lib.hid hp
  have HN2 := Lib.hid hn2
  clear hC hn hok hB hpB hr kr ko km ji jz0 jz1 jz2 hp hn2
  go_enter Try.func11, Try.ntmps11
  go_wp2_with (first | (go_at_call 19; (with_reducible refine kc.mono ?_); rintro e w1 ⟨rfl, hb⟩; have B1 := Lib.hid hb; have k2 := KR.out _ hb; have k3 := KO.out _ hb; clear hb kc) | (go_at_call 20; (with_reducible refine k2.mono ?_); rintro e w2 ⟨rfl, rfl⟩; clear k2) | (go_at_call 21; (with_reducible refine k3.mono ?_); rintro e w2 ⟨v, S, rfl, ho, hS, hb⟩; obtain ⟨s, ms, rfl, hH⟩ := ownE_holds ho rfl; have HH := Lib.hid hH; have HS := Lib.hid hS; have B2 := Lib.hid (B1.out.trans (hb.mono B1.out.size)); have hmk := KM.out w2; clear hb ho hH hS k3) | fail)
  clear hmk
  obtain ⟨sl, hsl⟩ : ∃ x, x = S.length := ⟨_, rfl⟩
  rw [← hsl]
  have HSL := Lib.hid hsl
  clear hsl
  go_loopw [29] (fun i wr => ∃ k : Nat, ∃ vs : List Value, k ≤ p ∧ i = .int .i64 (k : Int) ∧ Hid (Lay wr w2.heap.size p k vs (fun j => chs cs (B.getD j 0))) ∧ Hid (Below w2.heap.size w2 wr)) (fun i _ => p - (intOf i).toNat)
  case atStart => exact ⟨0, List.replicate p (.slice none 0 0), Nat.zero_le _, rfl, Lib.hid ⟨Blk.new _ _ _, by simp, fun j hj => absurd hj (Nat.not_lt_zero _)⟩, below_alloc (Below.refl _ _) _⟩
  case round =>
    obtain ⟨k, vs, hk, rfl, hL, hB⟩ := hrel
    obtain ⟨w0, rfl⟩ : ∃ w0 : World, w0 = wr := ⟨_, rfl⟩
    have hp9 := HP2.out
    by_cases hlt : k < p
    · have hkB : k < B.length := by have := HP.out; omega
      have BB := B2.out.trans (hB.out.mono B2.out.size)
      obtain ⟨b0, off, rfl, c0⟩ := (HBU.out.below BB (Nat.le_refl _)).at hkB
      have kl := last_c a m n cs w0 (HC.out.below BB (Nat.le_refl _)) HN.out HOK.out
      have kw := fun bud : Int => within_c bud s ms n sl S w0 (HH.out.below hB.out (Nat.le_refl _)) HN2.out HSL.out (by rw [HN.out]; exact okL_of HOK.out HS.out)
      have hSS := isS_uniq HS.out (insA_is HOK.out)
      have hLk : (fun j => chs cs (B.getD j 0)) k = chs cs (B.getD k 0) := rfl
      generalize B.getD k 0 = bud at c0 hLk
      have HLK := Lib.hid hLk
      have HSS := Lib.hid hSS
      have z0 : (0 : Int) ≤ (k : Int) := by omega
      have z1 : (k : Int) < (p : Int) := by omega
      clear hkB BB hLk hSS
      by_cases hb1 : bud = -1
      · subst hb1
        go_wp2_with (first | (go_at_call 22; (with_reducible refine kl.mono ?_); rintro e w3 ⟨g3, rfl, hb3, hg3, hbl⟩; have L3 := hL.out.call hbl; have B3 := Lib.hid (hB.out.trans (hbl.mono hB.out.size)); have d0 := L3.cell hlt; have d1 := L3.blk.free k; have HP3 := Lib.hid (L3.put hlt (show (fun j => chs cs (B.getD j 0)) k = lastL cs by rw [HLK.out]; exact if_pos rfl) hb3); clear L3 hb3 hbl hg3; generalize vs.getD k undef = old at d0) | fail)
        go_roundw
        case rel => exact ⟨k + 1, _, by omega, by go_num, HP3, B3.out.setCell (Nat.le_refl _) _⟩
        case measure => simp [intOf]; omega
      · have kw := kw bud
        go_wp2_with (first | (go_at_call 23; (with_reducible refine kw.mono ?_); rintro e w3 ⟨g3, rfl, hb3, hg3, hbl⟩; have L3 := hL.out.call hbl; have B3 := Lib.hid (hB.out.trans (hbl.mono hB.out.size)); have d0 := L3.cell hlt; have d1 := L3.blk.free k; have HLW := Lib.hid (show (fun j => chs cs (B.getD j 0)) k = wth bud 0 S (List.replicate n 0) by rw [HLK.out, HSS.out, HN.out]; exact if_neg hb1); have HP3 := Lib.hid (L3.put hlt HLW.out hb3); clear L3 hb3 hbl hg3; generalize vs.getD k undef = old at d0) | fail)
        go_roundw
        case rel => exact ⟨k + 1, _, by omega, by go_num, HP3, B3.out.setCell (Nat.le_refl _) _⟩
        case measure => simp [intOf]; omega
    · obtain rfl : k = p := by omega
      go_wp2_with fail
      go_ret2
      exact ⟨_, vs, rfl, hL.out, B2.out.size, B2.out.trans (hB.out.mono B2.out.size)⟩
end Go.Proofs.Ytkohdiajpdlkjaa
