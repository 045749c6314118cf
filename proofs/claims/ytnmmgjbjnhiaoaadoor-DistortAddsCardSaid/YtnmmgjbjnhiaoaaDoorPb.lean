/-
  Layer 14: lists of integers compared; Segments of the code and of the reference.
-/
import Derived.Test.YtnmmgjbjnhiaoaaDoorPa
import Derived.Maps.AppendAt
set_option maxRecDepth 100000
namespace Go.Proofs.YtnmmgjbjnhiaoaaDoor
open Go.RowKit

theorem HoldsI.at {w : World} {s : Option Addr} {l : List Int} (h : HoldsI w s l) {k : Nat} (hk : k < l.length) : ∃ b off, s = some ⟨b, off, none⟩ ∧ w.cell? ⟨b, off + k, none⟩ = some (.int .i64 (l.getD k 0)) := by
  rcases h with rfl | ⟨b, off, rfl, hr⟩
  · simp at hk
  · refine ⟨b, off, rfl, ?_⟩
    rw [hr k hk]
    simp [List.getD, hk]
theorem same14_t (w : World) (l : List Int) (s t : Option Addr) (n m k : Nat) (hn : n = l.length) (ha : HoldsI w s l) (hb : HoldsI w t l) (hl : l.length ≤ 1000000000) :
    Calls Tryd.prog 28 #[.slice s n m, .slice t n k] w fun e w' => e = .returned (.bool true) ∧ Below w.heap.size w w' := by
  subst hn
  have HA := Lib.hid ha
  have HB := Lib.hid hb
  clear ha hb
  go_enter Tryd.func28, Tryd.ntmps28
  go_wp2_with fail
  go_loopw [5] (fun i wr => ∃ j : Nat, j ≤ l.length ∧ i = .int .i64 (j : Int) ∧ Below w.heap.size w wr) (fun i _ => l.length - (intOf i).toNat)
  case atStart => exact ⟨0, Nat.zero_le _, rfl, Below.refl _ _⟩
  case round =>
    obtain ⟨j, hj, rfl, hW⟩ := hrel
    by_cases hlt : j < l.length
    · obtain ⟨g, off, rfl, hc⟩ := (HA.out.call hW).at hlt
      obtain ⟨g2, off2, rfl, hc2⟩ := (HB.out.call hW).at hlt
      generalize l.getD j 0 = x at *
      have hxx : (x != x) = false := by simp
      go_wp2_with fail
      go_quiet (fail)
      go_wp2_with fail
      go_roundw
      case rel => exact ⟨j + 1, by omega, by go_num, hW.trans ((drewN_below wr nq).mono hW.size)⟩
      case measure => simp [intOf]; omega
    · obtain rfl : j = l.length := by omega
      go_wp2_with fail
      go_ret
      exact ⟨rfl, hW⟩
/-- The last number, one greater. -/
def bump (l : List Int) : List Int := l.set (l.length - 1) (l.getD (l.length - 1) 0 + 1)
/-- Whether a segment begins with pass k. -/
def newSeg (b r : Bool) (k : Nat) : Bool := k == 0 || r || rawM (k : Int) b != rawM ((k : Int) - 1) b
def segC (b r : Bool) : Nat → List Int
  | 0 => []
  | k + 1 => bump (if newSeg b r k then segC b r k ++ [0] else segC b r k)
theorem bump_len (l : List Int) : (bump l).length = l.length := by simp [bump]
theorem segC_len (b r : Bool) (k : Nat) : (segC b r k).length ≤ k ∧ (1 ≤ k → 1 ≤ (segC b r k).length) := by
  induction k with
  | zero => exact ⟨Nat.le_refl _, fun h => by omega⟩
  | succ k ih =>
    unfold segC
    rw [bump_len]
    split
    · simp; omega
    · rename_i h
      have : k ≠ 0 := by rintro rfl; simp [newSeg] at h
      omega
theorem bump_in (l : List Int) (M : Int) (h : ∀ x ∈ l, 0 ≤ x ∧ x ≤ M) : ∀ x ∈ bump l, 0 ≤ x ∧ x ≤ M + 1 := by
  intro x hx
  unfold bump at hx
  rcases List.mem_or_eq_of_mem_set hx with h1 | rfl
  · have := h x h1; omega
  · by_cases hl : l.length - 1 < l.length
    · have e : l.getD (l.length - 1) 0 = l[l.length - 1] := by simp [List.getD, hl]
      rw [e]
      have := h _ (List.getElem_mem hl); omega
    · rw [show l.getD (l.length - 1) 0 = 0 by simp [List.getD, hl]]
      have hl0 : l = [] := List.length_eq_zero_iff.1 (by omega)
      subst hl0
      simp at hx
theorem segC_in (b r : Bool) (k : Nat) : ∀ x ∈ segC b r k, 0 ≤ x ∧ x ≤ k := by
  induction k with
  | zero => intro x hx; simp [segC] at hx
  | succ k ih =>
    unfold segC
    intro x hx
    have := bump_in (if newSeg b r k then segC b r k ++ [0] else segC b r k) (k : Int) (by
      intro y hy
      split at hy
      · rcases List.mem_append.1 hy with h | h
        · exact ih y h
        · simp at h; omega
      · exact ih y hy) x hx
    omega
def segN (b r : Bool) (left len : Nat) : Nat := if r then 1 else if b && len == 0 then min left 10 else if b then min left (1 + len % 2) else left
theorem segN_b (k len : Nat) : segN true false k len = if len = 0 then min k 10 else min k (1 + len % 2) := by
  unfold segN
  by_cases h : len = 0 <;> simp [h]
def segR (b r : Bool) : Nat → Nat → List Int → List Int
  | 0, _, out => out
  | f + 1, left, out => if left = 0 then out else segR b r f (left - segN b r left out.length) (out ++ [(segN b r left out.length : Int)])
theorem segR_r (b : Bool) : ∀ (f left : Nat) (out : List Int), left ≤ f → segR b true f left out = out ++ List.replicate left 1
  | 0, left, out, h => by obtain rfl : left = 0 := by omega
                          simp [segR]
  | f + 1, left, out, h => by
    unfold segR
    by_cases h0 : left = 0
    · subst h0; simp
    · rw [if_neg h0]
      have e : segN b true left out.length = 1 := rfl
      rw [e, segR_r b f (left - 1) _ (by omega)]
      obtain ⟨k, rfl⟩ : ∃ k, left = k + 1 := ⟨left - 1, by omega⟩
      rw [List.replicate_succ]
      simp
theorem segC_r (b : Bool) (k : Nat) : segC b true k = List.replicate k 1 := by
  induction k with
  | zero => rfl
  | succ k ih =>
    have hn : newSeg b true k = true := by simp [newSeg]
    unfold segC
    rw [hn, if_pos rfl, ih]
    unfold bump
    simp [List.replicate_succ']
theorem segC_p (k : Nat) : segC false false (k + 1) = [((k + 1 : Nat) : Int)] := by
  induction k with
  | zero => rfl
  | succ k ih =>
    have hn : newSeg false false (k + 1) = false := by simp [newSeg, rawM]
    rw [segC, hn, if_neg (by simp), ih]
    simp [bump]
theorem raw_at (q : Nat) : rawM ((10 + 3 * q : Nat) : Int) true = true ∧ rawM ((11 + 3 * q : Nat) : Int) true = true ∧ rawM ((12 + 3 * q : Nat) : Int) true = false ∧ rawM ((9 + 3 * q : Nat) : Int) true = false := by
  have p1 : plnP ((10 + 3 * q : Nat) : Int) = 4 + q ∧ kndP ((10 + 3 * q : Nat) : Int) = 0 := by unfold plnP kndP; constructor <;> (rw [if_neg (by omega), if_neg (by omega)]; omega)
  have p2 : plnP ((11 + 3 * q : Nat) : Int) = 4 + q ∧ kndP ((11 + 3 * q : Nat) : Int) = 1 := by unfold plnP kndP; constructor <;> (rw [if_neg (by omega), if_neg (by omega)]; omega)
  have p3 : kndP ((12 + 3 * q : Nat) : Int) = 2 := by unfold kndP; rw [if_neg (by omega), if_neg (by omega)]; omega
  have p4 : kndP ((9 + 3 * q : Nat) : Int) = 2 := by unfold kndP; rw [if_neg (by omega), if_neg (by omega)]; omega
  refine ⟨?_, ?_, ?_, ?_⟩
  · unfold rawM; rw [p1.1, p1.2]; simp; omega
  · unfold rawM; rw [p2.1, p2.2]; simp; omega
  · unfold rawM; rw [p3]; simp
  · unfold rawM; rw [p4]; simp
def segD (q : Nat) : List Int := 10 :: (List.replicate q [(2 : Int), 1]).flatten
theorem segD_len (q : Nat) : (segD q).length = 1 + 2 * q := by simp [segD]; omega
theorem segD_succ (q : Nat) : segD (q + 1) = segD q ++ [2, 1] := by simp [segD, List.replicate_succ']
theorem bump_app (l : List Int) (x : Int) : bump (l ++ [x]) = l ++ [x + 1] := by
  unfold bump
  simp
theorem segC_b (q : Nat) : segC true false (10 + 3 * q) = segD q ∧ segC true false (10 + 3 * q + 1) = segD q ++ [1] ∧ segC true false (10 + 3 * q + 2) = segD q ++ [2] := by
  have key : ∀ q, segC true false (10 + 3 * q) = segD q → segC true false (10 + 3 * q + 1) = segD q ++ [1] ∧ segC true false (10 + 3 * q + 2) = segD q ++ [2] ∧ segC true false (10 + 3 * (q + 1)) = segD (q + 1) := by
    intro q h
    obtain ⟨r0, r1, r2, r3⟩ := raw_at q
    have n0 : newSeg true false (10 + 3 * q) = true := by
      have e : (((10 + 3 * q : Nat) : Int) - 1) = ((9 + 3 * q : Nat) : Int) := by omega
      unfold newSeg; rw [e, r0, r3]; simp
    have n1 : newSeg true false (10 + 3 * q + 1) = false := by
      have e : (((10 + 3 * q + 1 : Nat) : Int) - 1) = ((10 + 3 * q : Nat) : Int) := by omega
      have e2 : ((10 + 3 * q + 1 : Nat) : Int) = ((11 + 3 * q : Nat) : Int) := by omega
      unfold newSeg; rw [e, e2, r0, r1]; simp
    have n2 : newSeg true false (10 + 3 * q + 2) = true := by
      have e : (((10 + 3 * q + 2 : Nat) : Int) - 1) = ((11 + 3 * q : Nat) : Int) := by omega
      have e2 : ((10 + 3 * q + 2 : Nat) : Int) = ((12 + 3 * q : Nat) : Int) := by omega
      unfold newSeg; rw [e, e2, r1, r2]; simp
    have s1 : segC true false (10 + 3 * q + 1) = segD q ++ [1] := by
      rw [segC, n0, if_pos rfl, h, bump_app]; rfl
    have s2 : segC true false (10 + 3 * q + 2) = segD q ++ [2] := by
      rw [segC, n1, if_neg (by simp), s1, bump_app]; rfl
    refine ⟨s1, s2, ?_⟩
    rw [show 10 + 3 * (q + 1) = 10 + 3 * q + 2 + 1 by omega, segC, n2, if_pos rfl, s2, bump_app, segD_succ]
    simp
  have h0 : segC true false (10 + 3 * q) = segD q := by
    induction q with
    | zero => decide +kernel
    | succ q ih => exact (key q ih).2.2
  exact ⟨h0, (key q h0).1, (key q h0).2.1⟩
theorem segR_b : ∀ (left f q : Nat), left ≤ f → segR true false f left (segD q) = segC true false (10 + 3 * q + left)
  | 0, f, q, _ => by
    cases f with
    | zero => exact (segC_b q).1.symm
    | succ f => rw [segR, if_pos rfl]; exact (segC_b q).1.symm
  | 1, f, q, h => by
    obtain ⟨f, rfl⟩ : ∃ k, f = k + 1 := ⟨f - 1, by omega⟩
    have e : segN true false 1 (segD q).length = 1 := by rw [segD_len]; unfold segN; simp; try omega
    rw [segR, if_neg (by decide), e, (segC_b q).2.1]
    cases f with
    | zero => rfl
    | succ f => rw [segR, if_pos (by decide)]; rfl
  | 2, f, q, h => by
    obtain ⟨f, rfl⟩ : ∃ k, f = k + 2 := ⟨f - 2, by omega⟩
    have e : segN true false 2 (segD q).length = 2 := by rw [segD_len]; unfold segN; simp; try omega
    rw [segR, if_neg (by decide), e, (segC_b q).2.2]
    rw [segR, if_pos (by decide)]
    rfl
  | left + 3, f, q, h => by
    obtain ⟨f, rfl⟩ : ∃ k, f = k + 2 := ⟨f - 2, by omega⟩
    have e : segN true false (left + 3) (segD q).length = 2 := by rw [segD_len]; unfold segN; simp; try omega
    have e2 : segN true false (left + 1) (segD q ++ [2]).length = 1 := by rw [List.length_append, segD_len]; unfold segN; simp; omega
    rw [segR, if_neg (by omega), e, show left + 3 - 2 = left + 1 by omega, segR, if_neg (by omega), show ((2 : Nat) : Int) = 2 from rfl, e2, show left + 1 - 1 = left by omega]
    have := segR_b left f (q + 1) (by omega)
    rw [segD_succ] at this
    rw [List.append_assoc]
    rw [show 10 + 3 * q + (left + 3) = 10 + 3 * (q + 1) + left by omega]
    exact this
theorem seg_low : ∀ p : Fin 11, segR true false 178 p.1 [] = segC true false p.1 := by decide +kernel
theorem seg_same (p : Nat) (hp : p ≤ 178) (b r : Bool) : segR b r 178 p [] = segC b r p := by
  cases r with
  | true => rw [segR_r b 178 p [] hp, segC_r]; rfl
  | false =>
    cases b with
    | false =>
      cases p with
      | zero => rfl
      | succ k =>
        rw [segC_p, segR, if_neg (by omega)]
        have e : segN false false (k + 1) ([] : List Int).length = k + 1 := rfl
        rw [e, show k + 1 - (k + 1) = 0 by omega, segR, if_pos rfl]
        rfl
    | true =>
      by_cases h : p < 11
      · exact seg_low ⟨p, h⟩
      · rw [segR, if_neg (by omega)]
        have e : segN true false p ([] : List Int).length = 10 := by unfold segN; simp; omega
        rw [e]
        have := segR_b (p - 10) 177 0 (by omega)
        rw [show 10 + 3 * 0 + (p - 10) = p by omega] at this
        exact this
def segs (p : Int) (b r : Bool) : List Int := if p < 1 ∨ 178 < p then [] else segC b r p.toNat
structure SegAt (w : World) (m : Mo) (l : List Int) (sv : Value) (W : World) : Prop where
  own : W.ownsRow w.heap.size 3 1 sv l.length (l.map (Value.int .i64))
  box : Blk W w.heap.size 43 #[.bool m.b, .bool m.r, .bool m.s, .bool m.c, .bool m.y]
  below : Below w.heap.size w W
theorem SegAt.step {w W W1 : World} {m : Mo} {l : List Int} {sv : Value} (h : SegAt w m l sv W) (hb : Below W.heap.size W W1) : SegAt w m l sv W1 := ⟨own_below h.own hb, h.box.below hb, below_call h.below hb⟩
theorem SegAt.grow {w W w2 : World} {m : Mo} {l : List Int} {sv v' : Value} {X : Obj} {z : Int} (h : SegAt w m l sv W) (hown : w2.ownsRow w.heap.size 3 1 v' (l.length + 1) (l.map (Value.int .i64) ++ [.int .i64 z])) (hg : (W.alloc X).grownBy w2 sv.ownBlock) : SegAt w m (l ++ [z]) v' w2 := by
  have hne : sv.ownBlock ≠ some w.heap.size := own_blk_ne h.own h.box (by decide)
  refine ⟨by simpa using hown, (h.box.alloc X).grown hg (fun e => hne e.symm), ?_⟩
  exact (h.below.alloc h.below.size X).grown hg (by have := h.below.size; simp; omega) fun k hk => (own_foot h.own hk).1
theorem SegAt.at {w W : World} {m : Mo} {l : List Int} {n : Nat} {sv : Value} (h : SegAt w m l sv W) (hn : l.length = n + 1) : ∃ g p, sv = .slice (some ⟨g, 0, none⟩) (n + 1) p ∧ W.cell? ⟨g, n, none⟩ = some (.int .i64 (l.getD n 0)) ∧ W.frozen? ⟨g, n, none⟩ = false ∧ SegAt w m (bump l) sv (W.setCell ⟨g, n, none⟩ (.int .i64 (l.getD n 0 + 1))) := by
  have ho := h.own
  rw [hn] at ho
  obtain ⟨g, p, rfl, hge, _, hc, hf⟩ := own_form ho
  refine ⟨g, p, rfl, ?_, hf n, ?_⟩
  · rw [hc]; simp [List.getD, hn]
  · have hp := own_put ho n (.int .i64 (l.getD n 0 + 1))
    have hne : g ≠ w.heap.size := fun e => own_blk_ne ho h.box (by decide) (by simp [Value.ownBlock, e])
    refine ⟨?_, h.box.far (p := ⟨g, n, none⟩) (fun e => hne e.symm) _, h.below.setCell hge _⟩
    rw [bump_len, hn]
    have e : (bump l).map (Value.int .i64) = (l.map (Value.int .i64)).set n (.int .i64 (l.getD n 0 + 1)) := by
      unfold bump; rw [hn, List.map_set]; rfl
    rw [e]; exact hp
theorem SegAt.cells {w W : World} {m : Mo} {l : List Int} {sv : Value} (h : SegAt w m l sv W) : W.cell? ⟨w.heap.size, 0, none⟩ = some (.bool m.b) ∧ W.cell? ⟨w.heap.size, 1, none⟩ = some (.bool m.r) ∧ W.cell? ⟨w.heap.size, 2, none⟩ = some (.bool m.s) ∧ W.cell? ⟨w.heap.size, 3, none⟩ = some (.bool m.c) ∧ W.cell? ⟨w.heap.size, 4, none⟩ = some (.bool m.y) :=
  ⟨h.box.cell 0, h.box.cell 1, h.box.cell 2, h.box.cell 3, h.box.cell 4⟩
theorem segs_no (p : Int) (m : Mo) (hp : p < 1 ∨ 178 < p) (W : World) : Calls Tryd.prog 56 #[.int .i64 p, m.val] W fun e w' => e = .returned (.slice none 0 0) ∧ Below W.heap.size W w' := by
  unfold Mo.val
  have hB := below_alloc (Below.refl _ W) (.cells #[.bool m.b, .bool m.r, .bool m.s, .bool m.c, .bool m.y] 43)
  rcases hp with h | h
  · go_enter Tryd.func56, Tryd.ntmps56
    go_wp2_with fail
    go_ret
    exact ⟨rfl, hB⟩
  · have h2 : ¬ p < 1 := by omega
    go_enter Tryd.func56, Tryd.ntmps56
    go_wp2_with fail
    go_ret
    exact ⟨rfl, hB⟩
def GivesI (l : List Int) (w : World) (e : Ending) (w' : World) : Prop := ∃ s m, e = .returned (.slice s l.length m) ∧ HoldsI w' s l ∧ Below w.heap.size w w'
theorem own_holds {w : World} {base n m : Nat} {s : Option Addr} {l : List Int} (h : w.ownsRow base 3 1 (.slice s n m) n (l.map (Value.int .i64))) : n = l.length ∧ HoldsI w s l := by
  obtain ⟨hn, h⟩ := rowP_own h
  refine ⟨hn, ?_⟩
  rcases h with ⟨h1, h2⟩ | ⟨g, m', pad, h1, _, h2, _⟩
  · exact .inl h2
  · simp at h1
    obtain ⟨rfl, _, _⟩ := h1
    exact h2.holds
set_option maxHeartbeats 8000000 in
theorem segs_t (p : Nat) (b s c y : Bool) (h1 : 1 ≤ p) (h2 : p ≤ 178) (w : World) : Calls Tryd.prog 56 #[.int .i64 (p : Int), .agg #[.bool b, .bool true, .bool s, .bool c, .bool y]] w (GivesI (segC b true p) w) := by
  obtain ⟨i0, hi, hz0, hz1, hz2⟩ := info_parts infoI
  have hI : Hid (SegAt w ⟨b, true, s, c, y⟩ [] (.slice none 0 0) (w.alloc (.cells #[.bool b, .bool true, .bool s, .bool c, .bool y] 43))) := ⟨World.ownsRow_nil _ _ _ _, Blk.new w 43 _, below_alloc (Below.refl _ w) _⟩
  have g1 : ¬ (p : Int) < 1 := by omega
  have g2 : ¬ (178 : Int) < p := by omega
  have H2 := Lib.hid h2
  clear h1 h2
  go_enter Tryd.func56, Tryd.ntmps56
  go_wp2_with fail
  clear g1 g2
  go_loopw [5, 6, 14] (fun z q i wr => ∃ (k : Nat) (sv : Value), k ≤ p ∧ i = .int .i64 (k : Int) ∧ z = sv ∧ Hid (SegAt w ⟨b, true, s, c, y⟩ (segC b true k) sv wr)) (fun _ _ i _ => p - (intOf i).toNat)
  case atStart => exact ⟨0, _, Nat.zero_le _, rfl, rfl, hI⟩
  case round =>
    obtain ⟨k, sv, hk, rfl, hz, hT⟩ := hrel
    obtain ⟨s5, m5, rfl⟩ := own_slice hT.out.own
    subst hz
    have hK := Lib.hid (show k ≤ 178 by have := H2.out; omega)
    by_cases hlt : k < p
    · obtain ⟨l, hl⟩ : ∃ l, l = segC b true k := ⟨_, rfl⟩
      rw [← hl] at hT ⊢
      have hlen := segC_len b true k
      have hin := segC_in b true k
      rw [← hl] at hlen hin
      have hl178 : l.length ≤ 178 := by have := hK.out; omega
      have HL := Lib.hid hl
      have HT := Lib.hid hT.out
      have HLn := Lib.hid hlen
      have HIN := Lib.hid hin
      clear hl hlen hin
      obtain ⟨m0, m1, m2, m3, m4⟩ := HT.out.cells
      have wk : IntKind.i64.wrap ((k : Int) - 1) = (k : Int) - 1 := by rw [IntWalk.i64_left]; unfold wrap64; have := hK.out; omega
      by_cases hk0 : k = 0
      · have kk : ((k : Int) == 0) = true := by simp [hk0]
        have KK := Lib.hid hk0
        clear hk0
        go_wp2_with fail
        go_quiet (fail)
        replace HT := Lib.hid (HT.out.step (drewN_below wr nq))
        generalize wr.drewN nq = w1 at *
        have hws := HT.out.below.size
        go_wp2_with (first | (at_builtin; refine wpList_append_own_at _ rfl _ _ 28 rfl w.heap.size 3 i0 (.int .i64 0) 1 8 Tryd.underlying28 hi hz0 hz1 hz2 rfl (by decide) _ l.length _ rfl (own_below HT.out.own ((Below.refl _ _).alloc (Nat.le_refl _) _)) ⟨w1.heap.size, 0, none⟩ 1 1 [.int .i64 0] rfl rfl (one_new8 _ _ _) (by intro u hu; simp at hu; subst hu; rfl) (by unfold maxLen; omega) (by omega) (by simp; omega) ?_))
        intro v' w2 hown hgrow _ _
        have T2 := HT.out.grow hown hgrow
        clear hown hgrow hws
        obtain ⟨g, pc, rfl, c9, f9, T3⟩ := T2.at (n := l.length) (by simp)
        have e9 : (l ++ [(0 : Int)]).getD l.length 0 = 0 := by simp
        rw [e9] at c9 T3
        have T4 := Lib.hid T3
        have HN := Lib.hid (show newSeg b true k = true from by unfold newSeg; rw [KK.out]; rfl)
        clear T2 T3 e9 wk
        have hp178 := H2.out
        go_wp2_with fail
        go_roundw
        case rel =>
          refine ⟨k + 1, _, by omega, by go_num, rfl, ?_⟩
          have := T4.out
          rw [segC, HN.out, if_pos rfl, ← HL.out]
          exact this
        case measure => simp [intOf]; omega
      · have kk : ((k : Int) == 0) = false := by simp [hk0]
        have KK := Lib.hid hk0
        clear hk0
        go_wp2_with fail
        go_quiet (fail)
        replace HT := Lib.hid (HT.out.step (drewN_below wr nq))
        generalize wr.drewN nq = w1 at *
        have hws := HT.out.below.size
        go_wp2_with (first | (at_builtin; refine wpList_append_own_at _ rfl _ _ 28 rfl w.heap.size 3 i0 (.int .i64 0) 1 8 Tryd.underlying28 hi hz0 hz1 hz2 rfl (by decide) _ l.length _ rfl (own_below HT.out.own ((Below.refl _ _).alloc (Nat.le_refl _) _)) ⟨w1.heap.size, 0, none⟩ 1 1 [.int .i64 0] rfl rfl (one_new8 _ _ _) (by intro u hu; simp at hu; subst hu; rfl) (by unfold maxLen; omega) (by omega) (by simp; omega) ?_))
        intro v' w2 hown hgrow _ _
        have T2 := HT.out.grow hown hgrow
        clear hown hgrow hws
        obtain ⟨g, pc, rfl, c9, f9, T3⟩ := T2.at (n := l.length) (by simp)
        have e9 : (l ++ [(0 : Int)]).getD l.length 0 = 0 := by simp
        rw [e9] at c9 T3
        have T4 := Lib.hid T3
        have HN := Lib.hid (show newSeg b true k = true from by unfold newSeg; simp)
        clear T2 T3 e9 wk
        have hp178 := H2.out
        go_wp2_with fail
        go_roundw
        case rel =>
          refine ⟨k + 1, _, by omega, by go_num, rfl, ?_⟩
          have := T4.out
          rw [segC, HN.out, if_pos rfl, ← HL.out]
          exact this
        case measure => simp [intOf]; omega
    · obtain rfl : k = p := by omega
      go_wp2_with fail
      go_ret
      obtain ⟨_, h⟩ := own_holds hT.out.own
      exact ⟨s5, m5, rfl, h, hT.out.below⟩
set_option maxHeartbeats 8000000 in
theorem segs_f (p : Nat) (b s c y : Bool) (h1 : 1 ≤ p) (h2 : p ≤ 178) (w : World) : Calls Tryd.prog 56 #[.int .i64 (p : Int), .agg #[.bool b, .bool false, .bool s, .bool c, .bool y]] w (GivesI (segC b false p) w) := by
  obtain ⟨i0, hi, hz0, hz1, hz2⟩ := info_parts infoI
  have hI : Hid (SegAt w ⟨b, false, s, c, y⟩ [] (.slice none 0 0) (w.alloc (.cells #[.bool b, .bool false, .bool s, .bool c, .bool y] 43))) := ⟨World.ownsRow_nil _ _ _ _, Blk.new w 43 _, below_alloc (Below.refl _ w) _⟩
  have g1 : ¬ (p : Int) < 1 := by omega
  have g2 : ¬ (178 : Int) < p := by omega
  have H2 := Lib.hid h2
  clear h1 h2
  go_enter Tryd.func56, Tryd.ntmps56
  go_wp2_with fail
  clear g1 g2
  go_loopw [5, 6, 14] (fun z q i wr => ∃ (k : Nat) (sv : Value), k ≤ p ∧ i = .int .i64 (k : Int) ∧ z = sv ∧ Hid (SegAt w ⟨b, false, s, c, y⟩ (segC b false k) sv wr)) (fun _ _ i _ => p - (intOf i).toNat)
  case atStart => exact ⟨0, _, Nat.zero_le _, rfl, rfl, hI⟩
  case round =>
    obtain ⟨k, sv, hk, rfl, hz, hT⟩ := hrel
    obtain ⟨s5, m5, rfl⟩ := own_slice hT.out.own
    subst hz
    have hK := Lib.hid (show k ≤ 178 by have := H2.out; omega)
    by_cases hlt : k < p
    · obtain ⟨l, hl⟩ : ∃ l, l = segC b false k := ⟨_, rfl⟩
      rw [← hl] at hT ⊢
      have hlen := segC_len b false k
      have hin := segC_in b false k
      rw [← hl] at hlen hin
      have hl178 : l.length ≤ 178 := by have := hK.out; omega
      have HL := Lib.hid hl
      have HT := Lib.hid hT.out
      have HLn := Lib.hid hlen
      have HIN := Lib.hid hin
      clear hl hlen hin
      obtain ⟨m0, m1, m2, m3, m4⟩ := HT.out.cells
      have wk : IntKind.i64.wrap ((k : Int) - 1) = (k : Int) - 1 := by rw [IntWalk.i64_left]; unfold wrap64; have := hK.out; omega
      by_cases hk0 : k = 0
      · have kk : ((k : Int) == 0) = true := by simp [hk0]
        have KK := Lib.hid hk0
        clear hk0
        go_wp2_with fail
        go_quiet (fail)
        replace HT := Lib.hid (HT.out.step (drewN_below wr nq))
        generalize wr.drewN nq = w1 at *
        have hws := HT.out.below.size
        go_wp2_with (first | (at_builtin; refine wpList_append_own_at _ rfl _ _ 28 rfl w.heap.size 3 i0 (.int .i64 0) 1 8 Tryd.underlying28 hi hz0 hz1 hz2 rfl (by decide) _ l.length _ rfl (own_below HT.out.own ((Below.refl _ _).alloc (Nat.le_refl _) _)) ⟨w1.heap.size, 0, none⟩ 1 1 [.int .i64 0] rfl rfl (one_new8 _ _ _) (by intro u hu; simp at hu; subst hu; rfl) (by unfold maxLen; omega) (by omega) (by simp; omega) ?_))
        intro v' w2 hown hgrow _ _
        have T2 := HT.out.grow hown hgrow
        clear hown hgrow hws
        obtain ⟨g, pc, rfl, c9, f9, T3⟩ := T2.at (n := l.length) (by simp)
        have e9 : (l ++ [(0 : Int)]).getD l.length 0 = 0 := by simp
        rw [e9] at c9 T3
        have T4 := Lib.hid T3
        have HN := Lib.hid (show newSeg b false k = true from by unfold newSeg; rw [KK.out]; rfl)
        clear T2 T3 e9 wk
        have hp178 := H2.out
        go_wp2_with fail
        go_roundw
        case rel =>
          refine ⟨k + 1, _, by omega, by go_num, rfl, ?_⟩
          have := T4.out
          rw [segC, HN.out, if_pos rfl, ← HL.out]
          exact this
        case measure => simp [intOf]; omega
      · have kk : ((k : Int) == 0) = false := by simp [hk0]
        have KK := Lib.hid hk0
        clear hk0
        have r1 := fun W => raw_c (k : Int) ⟨b, false, s, c, y⟩ (by have := hK.out; omega) W
        have r2 := fun W => raw_c ((k : Int) - 1) ⟨b, false, s, c, y⟩ (by have := hK.out; omega) W
        unfold Mo.val at r1 r2
        have HLT := Lib.hid HT.out.box.lt
        have n0 : wr.drew.cell? ⟨w.heap.size, 0, none⟩ = some (.bool b) := m0
        have n1 : wr.drew.cell? ⟨w.heap.size, 1, none⟩ = some (.bool false) := m1
        have n2 : wr.drew.cell? ⟨w.heap.size, 2, none⟩ = some (.bool s) := m2
        have n3 : wr.drew.cell? ⟨w.heap.size, 3, none⟩ = some (.bool c) := m3
        have n4 : wr.drew.cell? ⟨w.heap.size, 4, none⟩ = some (.bool y) := m4
        by_cases hd : (rawM (k : Int) b != rawM ((k : Int) - 1) b) = true
        · have HN0 := Lib.hid (show newSeg b false k = true by unfold newSeg; rw [hd]; simp)
          generalize rawM (k : Int) b = x1 at *
          generalize rawM ((k : Int) - 1) b = x2 at *
          have hd3 : (!x1 == x2) = true := by revert hd; cases x1 <;> cases x2 <;> simp
          go_wp2_with fail
          go_region_held3 (fun w' => w'.cell? ⟨w.heap.size, 0, none⟩ = some (.bool b) ∧ w'.cell? ⟨w.heap.size, 1, none⟩ = some (.bool false) ∧ w'.cell? ⟨w.heap.size, 2, none⟩ = some (.bool s) ∧ w'.cell? ⟨w.heap.size, 3, none⟩ = some (.bool c) ∧ w'.cell? ⟨w.heap.size, 4, none⟩ = some (.bool y))
            (first | (with_reducible exact ⟨m0, m1, m2, m3, m4⟩) | (with_reducible exact ⟨n0, n1, n2, n3, n4⟩) | (with_reducible exact ⟨d0, d1, d2, d3, d4⟩) | (with_reducible exact ⟨e0, e1, e2, e3, e4⟩) | fail)
            (first | (go_simp; go_at_call 58; first | ((with_reducible refine (r1 _).mono ?_); rintro e w5 ⟨rfl, hb5⟩; have B5 := Lib.hid hb5; have d0 := (hb5.cell (p := ⟨w.heap.size, 0, none⟩) HLT.out).trans m0; have d1 := (hb5.cell (p := ⟨w.heap.size, 1, none⟩) HLT.out).trans m1; have d2 := (hb5.cell (p := ⟨w.heap.size, 2, none⟩) HLT.out).trans m2; have d3 := (hb5.cell (p := ⟨w.heap.size, 3, none⟩) HLT.out).trans m3; have d4 := (hb5.cell (p := ⟨w.heap.size, 4, none⟩) HLT.out).trans m4; clear hb5) | ((with_reducible refine (r2 _).mono ?_); rintro e w6 ⟨rfl, hb6⟩; have B6 := Lib.hid (below_call B5.out hb6); have e0 := (B6.out.cell (p := ⟨w.heap.size, 0, none⟩) HLT.out).trans m0; have e1 := (B6.out.cell (p := ⟨w.heap.size, 1, none⟩) HLT.out).trans m1; have e2 := (B6.out.cell (p := ⟨w.heap.size, 2, none⟩) HLT.out).trans m2; have e3 := (B6.out.cell (p := ⟨w.heap.size, 3, none⟩) HLT.out).trans m3; have e4 := (B6.out.cell (p := ⟨w.heap.size, 4, none⟩) HLT.out).trans m4; clear hb6)) | fail)
          replace HT := Lib.hid (HT.out.step (below_call (Below.refl _ wr).drew B6.out))
          clear d0 d1 d2 d3 d4 e0 e1 e2 e3 e4 n0 n1 n2 n3 n4
          clear r1 r2 B5 B6 HLT
          have hws := HT.out.below.size
          go_wp2_with (first | (at_builtin; refine wpList_append_own_at _ rfl _ _ 28 rfl w.heap.size 3 i0 (.int .i64 0) 1 8 Tryd.underlying28 hi hz0 hz1 hz2 rfl (by decide) _ l.length _ rfl (own_below HT.out.own ((Below.refl _ _).alloc (Nat.le_refl _) _)) ⟨w6.heap.size, 0, none⟩ 1 1 [.int .i64 0] rfl rfl (one_new8 _ _ _) (by intro u hu; simp at hu; subst hu; rfl) (by unfold maxLen; omega) (by omega) (by simp; omega) ?_))
          intro v' w2 hown hgrow _ _
          have T2 := HT.out.grow hown hgrow
          clear hown hgrow hws
          obtain ⟨g, pc, rfl, c9, f9, T3⟩ := T2.at (n := l.length) (by simp)
          have e9 : (l ++ [(0 : Int)]).getD l.length 0 = 0 := by simp
          rw [e9] at c9 T3
          have T4 := Lib.hid T3
          have HN := Lib.hid (show newSeg b false k = true from HN0.out)
          clear T2 T3 e9 wk
          have hp178 := H2.out
          go_wp2_with fail
          go_roundw
          case rel =>
            refine ⟨k + 1, _, by omega, by go_num, rfl, ?_⟩
            have := T4.out
            rw [segC, HN.out, if_pos rfl, ← HL.out]
            exact this
          case measure => simp [intOf]; omega
        · have hd2 : (rawM (k : Int) b != rawM ((k : Int) - 1) b) = false := by simpa using hd
          have HN0 := Lib.hid (show newSeg b false k = false by unfold newSeg; rw [hd2]; simp [KK.out])
          clear hd
          generalize rawM (k : Int) b = x1 at *
          generalize rawM ((k : Int) - 1) b = x2 at *
          have hd3 : (!x1 == x2) = false := by revert hd2; cases x1 <;> cases x2 <;> simp
          obtain ⟨n, hn⟩ : ∃ n, l.length = n + 1 := ⟨l.length - 1, by have := HLn.out.2 (by have := KK.out; omega); omega⟩
          rw [hn] at HT ⊢
          have hn178 : n ≤ 178 := by omega
          go_wp2_with fail
          go_region_held3 (fun w' => w'.cell? ⟨w.heap.size, 0, none⟩ = some (.bool b) ∧ w'.cell? ⟨w.heap.size, 1, none⟩ = some (.bool false) ∧ w'.cell? ⟨w.heap.size, 2, none⟩ = some (.bool s) ∧ w'.cell? ⟨w.heap.size, 3, none⟩ = some (.bool c) ∧ w'.cell? ⟨w.heap.size, 4, none⟩ = some (.bool y))
            (first | (with_reducible exact ⟨m0, m1, m2, m3, m4⟩) | (with_reducible exact ⟨n0, n1, n2, n3, n4⟩) | (with_reducible exact ⟨d0, d1, d2, d3, d4⟩) | (with_reducible exact ⟨e0, e1, e2, e3, e4⟩) | fail)
            (first | (go_simp; go_at_call 58; first | ((with_reducible refine (r1 _).mono ?_); rintro e w5 ⟨rfl, hb5⟩; have B5 := Lib.hid hb5; have d0 := (hb5.cell (p := ⟨w.heap.size, 0, none⟩) HLT.out).trans m0; have d1 := (hb5.cell (p := ⟨w.heap.size, 1, none⟩) HLT.out).trans m1; have d2 := (hb5.cell (p := ⟨w.heap.size, 2, none⟩) HLT.out).trans m2; have d3 := (hb5.cell (p := ⟨w.heap.size, 3, none⟩) HLT.out).trans m3; have d4 := (hb5.cell (p := ⟨w.heap.size, 4, none⟩) HLT.out).trans m4; clear hb5) | ((with_reducible refine (r2 _).mono ?_); rintro e w6 ⟨rfl, hb6⟩; have B6 := Lib.hid (below_call B5.out hb6); have e0 := (B6.out.cell (p := ⟨w.heap.size, 0, none⟩) HLT.out).trans m0; have e1 := (B6.out.cell (p := ⟨w.heap.size, 1, none⟩) HLT.out).trans m1; have e2 := (B6.out.cell (p := ⟨w.heap.size, 2, none⟩) HLT.out).trans m2; have e3 := (B6.out.cell (p := ⟨w.heap.size, 3, none⟩) HLT.out).trans m3; have e4 := (B6.out.cell (p := ⟨w.heap.size, 4, none⟩) HLT.out).trans m4; clear hb6)) | fail)
          replace HT := Lib.hid (HT.out.step (below_call (Below.refl _ wr).drew B6.out))
          clear d0 d1 d2 d3 d4 e0 e1 e2 e3 e4 n0 n1 n2 n3 n4
          clear r1 r2 B5 B6 HLT
          obtain ⟨g, pc, he, c9, f9, T3⟩ := HT.out.at (n := n) hn
          have T4 := Lib.hid T3
          have hxi := HIN.out (l.getD n 0) (by
            have e : l.getD n 0 = l[n]'(by omega) := by simp [List.getD, hn]
            rw [e]; exact List.getElem_mem _)
          generalize l.getD n 0 = x at *
          have wx : IntKind.i64.wrap (x + 1) = x + 1 := by rw [IntWalk.i64_left]; unfold wrap64; have := hK.out; omega
          have HX := Lib.hid hxi
          simp at he
          obtain ⟨rfl, rfl⟩ := he
          clear T3 wk hxi hn
          have hp178 := H2.out
          go_wp2_with fail
          go_roundw
          case rel =>
            refine ⟨k + 1, _, by omega, by go_num, rfl, ?_⟩
            have := T4.out
            rw [segC, HN0.out, if_neg (by simp), ← HL.out]
            exact this
          case measure => simp [intOf]; omega
    · obtain rfl : k = p := by omega
      go_wp2_with fail
      go_ret
      obtain ⟨_, h⟩ := own_holds hT.out.own
      exact ⟨s5, m5, rfl, h, hT.out.below⟩
end Go.Proofs.YtnmmgjbjnhiaoaaDoor
