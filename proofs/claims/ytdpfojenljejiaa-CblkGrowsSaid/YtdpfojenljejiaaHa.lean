/-
  Layer 14: counts: the numbers of neighbors of all coefficients.
-/
import Derived.Test.YtdpfojenljejiaaGc
set_option maxRecDepth 100000
namespace Go.Proofs.Ytdpfojenljejiaa
open Go.RowKit

def cntR (q : St) (c : Bool) (Y k : Nat) : List Int := (List.range k).flatMap fun X : Nat => [nbH q (X : Int) (Y : Int), nbV q (X : Int) (Y : Int) c, nbD q (X : Int) (Y : Int) c]
def cntL (q : St) (w : Nat) (c : Bool) (n : Nat) : List Int := (List.range n).flatMap fun Y : Nat => cntR q c Y w
theorem cntR_succ (q : St) (c : Bool) (Y k : Nat) : cntR q c Y (k + 1) = cntR q c Y k ++ [nbH q (k : Int) (Y : Int), nbV q (k : Int) (Y : Int) c, nbD q (k : Int) (Y : Int) c] := by simp [cntR, List.range_succ]
theorem cntL_succ (q : St) (w : Nat) (c : Bool) (n : Nat) : cntL q w c (n + 1) = cntL q w c n ++ cntR q c n w := by simp [cntL, List.range_succ]
theorem cntR_len (q : St) (c : Bool) (Y k : Nat) : (cntR q c Y k).length = 3 * k := by
  induction k with
  | zero => simp [cntR]
  | succ k ih => rw [cntR_succ, List.length_append, ih]; simp; omega
theorem cntL_len (q : St) (w : Nat) (c : Bool) (n : Nat) : (cntL q w c n).length = 3 * (n * w) := by
  induction n with
  | zero => simp [cntL]
  | succ n ih => rw [cntL_succ, List.length_append, ih, cntR_len, show (n + 1) * w = n * w + w from Nat.succ_mul n w]; omega
theorem cntR_at (q : St) (c : Bool) (Y k X : Nat) (hX : X < k) : (cntR q c Y k).getD (3 * X) 0 = nbH q X Y ∧ (cntR q c Y k).getD (3 * X + 1) 0 = nbV q X Y c ∧ (cntR q c Y k).getD (3 * X + 2) 0 = nbD q X Y c := by
  induction k with
  | zero => omega
  | succ k ih =>
    rw [cntR_succ]
    have hl := cntR_len q c Y k
    by_cases h : X < k
    · have := ih h
      simp only [List.getD] at this ⊢
      rw [List.getElem?_append_left (by omega), List.getElem?_append_left (by omega), List.getElem?_append_left (by omega)]
      exact this
    · obtain rfl : X = k := by omega
      simp only [List.getD]
      rw [List.getElem?_append_right (by omega), List.getElem?_append_right (by omega), List.getElem?_append_right (by omega), hl]
      rw [show 3 * X - 3 * X = 0 by omega, show 3 * X + 1 - 3 * X = 1 by omega, show 3 * X + 2 - 3 * X = 2 by omega]
      exact ⟨rfl, rfl, rfl⟩
theorem cntL_at (q : St) (w : Nat) (c : Bool) (n X Y : Nat) (hX : X < w) (hY : Y < n) : (cntL q w c n).getD (3 * (Y * w + X)) 0 = nbH q X Y ∧ (cntL q w c n).getD (3 * (Y * w + X) + 1) 0 = nbV q X Y c ∧ (cntL q w c n).getD (3 * (Y * w + X) + 2) 0 = nbD q X Y c := by
  induction n with
  | zero => omega
  | succ n ih =>
    rw [cntL_succ]
    have hl := cntL_len q w c n
    have hr := cntR_len q c n w
    by_cases h : Y < n
    · have := ih h
      have hlt := grid_lt (w := w) (h := n) hX h
      rw [Nat.mul_comm w n] at hlt
      simp only [List.getD] at this ⊢
      rw [List.getElem?_append_left (by omega), List.getElem?_append_left (by omega), List.getElem?_append_left (by omega)]
      exact this
    · obtain rfl : Y = n := by omega
      have := cntR_at q c Y w X hX
      simp only [List.getD] at this ⊢
      rw [List.getElem?_append_right (by omega), List.getElem?_append_right (by omega), List.getElem?_append_right (by omega), hl]
      rw [show 3 * (Y * w + X) - 3 * (Y * w) = 3 * X by omega, show 3 * (Y * w + X) + 1 - 3 * (Y * w) = 3 * X + 1 by omega, show 3 * (Y * w + X) + 2 - 3 * (Y * w) = 3 * X + 2 by omega]
      exact this
structure CnAt (w : World) (l : List Int) (sv : Value) (W : World) : Prop where
  own : W.ownsRow w.heap.size 3 1 sv l.length (l.map (Value.int .i64))
  below : Below w.heap.size w W
theorem CnAt.step {w W W1 : World} {l : List Int} {sv : Value} (h : CnAt w l sv W) (hb : Below W.heap.size W W1) : CnAt w l sv W1 := ⟨own_below h.own hb, below_call h.below hb⟩
theorem CnAt.grow {w W w2 : World} {l : List Int} {sv v' : Value} {X : Obj} {a b c : Int} (h : CnAt w l sv W) (hown : w2.ownsRow w.heap.size 3 1 v' (l.length + 3) (l.map (Value.int .i64) ++ [.int .i64 a, .int .i64 b, .int .i64 c])) (hg : (W.alloc X).grownBy w2 sv.ownBlock) : CnAt w (l ++ [a, b, c]) v' w2 := by
  refine ⟨by simpa using hown, (h.below.alloc h.below.size X).grown hg (by have := h.below.size; simp; omega) fun k hk => (own_foot h.own hk).1⟩
theorem three_new (W : World) (a b c : Int) (T : TypeId) : ∀ j u, ([.int .i64 a, .int .i64 b, .int .i64 c] : List Value)[j]? = some u → (W.alloc (.cells #[.int .i64 a, .int .i64 b, .int .i64 c] T)).cell? ((⟨W.heap.size, 0, none⟩ : Addr).add j) = some u := by
  intro j u hj
  match j, hj with
  | 0, hj => simp at hj; subst hj; simp [Addr.add]
  | 1, hj => simp at hj; subst hj; simp [Addr.add]
  | 2, hj => simp at hj; subst hj; simp [Addr.add]
/-- A list of numbers in memory of the call's own. -/
def GivesN (l : List Int) (w : World) (e : Ending) (w' : World) : Prop := ∃ s m, e = .returned (.slice s l.length m) ∧ (HoldsI w' s l ∧ ∀ a, s = some a → w.heap.size ≤ a.block) ∧ Below w.heap.size w w'
set_option maxHeartbeats 8000000 in
theorem counts_c {W : World} {B A V S T R w h : Nat} {q : St} (H : Cb W B A V S T R w h q) (hw : w ≤ 12) (hh : h ≤ 12) (c : Bool) : Calls Try.prog 35 #[.pointer (some ⟨A, 0, none⟩), .int .i64 (w : Int), .int .i64 (h : Int), .bool c] W (GivesN (cntL q w c h) W) := by
  obtain ⟨i0, hi, hz0, hz1, hz2⟩ := info_parts infoI
  have HH := Lib.hid H
  have hI : Hid (CnAt W [] (.slice none 0 0) W) := ⟨World.ownsRow_nil _ _ _ _, Below.refl _ _⟩
  have HW := Lib.hid (And.intro hw hh)
  clear H hw hh
  go_enter Try.func35, Try.ntmps35
  go_wp2_with fail
  go_loopw [9, 10] (fun z i wr => ∃ (Y : Nat) (sv : Value), Y ≤ h ∧ i = .int .i64 (Y : Int) ∧ z = sv ∧ Hid (CnAt W (cntL q w c Y) sv wr)) (fun _ i _ => h - (intOf i).toNat)
  case atStart => exact ⟨0, _, by omega, rfl, rfl, hI⟩
  case round =>
    obtain ⟨Y, sv, hY, rfl, hz, hT⟩ := hrel
    obtain ⟨s5, m5, rfl⟩ := own_slice hT.out.own
    subst hz
    obtain ⟨hw12, hh12⟩ := HW.out
    by_cases hlY : Y < h
    · obtain ⟨l0, hl0⟩ : ∃ l0, l0 = cntL q w c Y := ⟨_, rfl⟩
      have hlen0 : l0.length = 3 * (Y * w) := by rw [hl0]; exact cntL_len q w c Y
      have hyw : Y * w ≤ 12 * 12 := Nat.mul_le_mul (by omega) hw12
      rw [← hl0] at hT ⊢
      have HL0 := Lib.hid hl0
      have HLN0 := Lib.hid (show l0.length ≤ 432 by omega)
      have hT0 := Lib.hid hT.out
      clear hl0 hlen0 hT hyw
      go_wp2_with fail
      go_loopw [9, 11] (fun z i wr => ∃ (k : Nat) (sv : Value), k ≤ w ∧ i = .int .i64 (k : Int) ∧ z = sv ∧ Hid (CnAt W (l0 ++ cntR q c Y k) sv wr)) (fun _ i _ => w - (intOf i).toNat)
      case atStart => exact ⟨0, _, by omega, rfl, rfl, by simpa [cntR] using hT0⟩
      case round =>
        obtain ⟨k, sv, hk, rfl, hz, hT⟩ := hrel
        obtain ⟨s6, m6, rfl⟩ := own_slice hT.out.own
        subst hz
        by_cases hlk : k < w
        · obtain ⟨l, hl⟩ : ∃ l, l = l0 ++ cntR q c Y k := ⟨_, rfl⟩
          have hlen : l.length ≤ 500 := by
            rw [hl, List.length_append, cntR_len]
            have := HLN0.out
            omega
          rw [← hl] at hT ⊢
          have HL := Lib.hid hl
          have T1 := Lib.hid hT.out
          have n1 := nb_y (HH.out.below hT.out.below) (k : Int) (Y : Int) c (by unfold inB; omega)
          have hs := cntR_succ q c Y k
          generalize nbH q (k : Int) (Y : Int) = za at *
          generalize nbV q (k : Int) (Y : Int) c = zb at *
          generalize nbD q (k : Int) (Y : Int) c = zc at *
          have HS := Lib.hid hs
          clear hl hT hs
          go_wp2_with fail
          refine n1.mono ?_
          rintro e w1 ⟨rfl, hb⟩
          have HT := Lib.hid (T1.out.step hb)
          clear hb n1 T1
          have hws := HT.out.below.size
          go_wp2_with (first | (at_builtin; refine wpList_append_own_at _ rfl _ _ 51 rfl W.heap.size 3 i0 (.int .i64 0) 1 8 Try.underlying51 hi hz0 hz1 hz2 rfl (by decide) _ l.length _ rfl (own_below HT.out.own ((Below.refl _ _).alloc (Nat.le_refl _) _)) ⟨w1.heap.size, 0, none⟩ 3 3 [.int .i64 za, .int .i64 zb, .int .i64 zc] rfl rfl (three_new _ _ _ _ _) (by intro u hu; simp at hu; rcases hu with rfl | rfl | rfl <;> rfl) (by unfold maxLen; omega) (by omega) (by simp; omega) ?_))
          intro v' w2 hown hgrow _ _
          have T2 := Lib.hid (HT.out.grow hown hgrow)
          clear hown hgrow hws
          go_wp2_with fail
          go_roundw
          case rel =>
            refine ⟨k + 1, v', by omega, by go_num, rfl, ?_⟩
            have := T2.out
            rw [HL.out, List.append_assoc, ← HS.out] at this
            exact this
          case measure => simp [intOf]; omega
        · obtain rfl : k = w := by omega
          have HT := Lib.hid hT.out
          clear hT
          go_wp2_with fail
          go_roundw
          case rel =>
            refine ⟨Y + 1, _, by omega, by go_num, rfl, ?_⟩
            have := HT.out
            rw [HL0.out, ← cntL_succ] at this
            rw [HL0.out, ← cntL_succ]
            exact this
          case measure => simp [intOf]; omega
    · obtain rfl : Y = h := by omega
      go_wp2_with fail
      go_ret
      obtain ⟨_, hh⟩ := own_holds hT.out.own
      exact ⟨s5, m5, rfl, ⟨hh, fun a ha => (own_foot hT.out.own (k := a.block) (by rw [ha]; rfl)).1⟩, hT.out.below⟩
theorem HoldsI.kb {W W' : World} {s : Option Addr} {l : List Int} {fp : List Nat} {N : Nat} (h : HoldsI W s l) (hf : ∀ a, s = some a → N ≤ a.block) (K : Kb fp W W') (hN : ∀ k ∈ fp, k < N) : HoldsI W' s l := by
  rcases h with h | ⟨b, off, rfl, hr⟩
  · exact .inl h
  · have hb := hf _ rfl
    refine .inr ⟨b, off, rfl, fun k hk => ?_⟩
    have hc := hr k hk
    have hlt := cell_lt hc
    have e := K.block b hlt (fun hm => by have := hN b hm; simp only at hb; omega)
    rw [← hc]
    exact World.cell?_of_block e
theorem jnt_in (a b : Int) : -1 ≤ jnt a b ∧ jnt a b ≤ 1 := by unfold jnt; omega
theorem cn_zero {q : St} {x y : Int} (h : cn q x y = 0) : sg q x y = 0 := by
  unfold cn b8 at h
  unfold sg
  by_cases hs : q.s x y = true
  · rw [if_pos hs] at h; omega
  · rw [if_neg hs]
theorem nbH_zero {q : St} {x y : Int} (h : nbH q x y = 0) : sgH q x y = 0 := by
  unfold nbH at h
  have h1 := cn_in q (x - 1) y
  have h2 := cn_in q (x + 1) y
  unfold sgH
  rw [cn_zero (show cn q (x - 1) y = 0 by omega), cn_zero (show cn q (x + 1) y = 0 by omega)]
  decide
theorem nbV_zero {q : St} {x y : Int} {c : Bool} (h : nbV q x y c = 0) : sgV q x y c = 0 := by
  unfold nbV at h
  unfold sgV
  have h1 := cn_in q x (y - 1)
  have h2 := cn_in q x (y + 1)
  by_cases hh : hid y c = true
  · rw [if_pos hh] at h
    rw [if_pos hh, cn_zero (show cn q x (y - 1) = 0 by omega)]
    decide
  · rw [if_neg hh] at h
    rw [if_neg hh, cn_zero (show cn q x (y - 1) = 0 by omega), cn_zero (show cn q x (y + 1) = 0 by omega)]
    decide
end Go.Proofs.Ytdpfojenljejiaa
