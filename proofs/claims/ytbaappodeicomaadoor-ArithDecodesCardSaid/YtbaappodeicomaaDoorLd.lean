/-
  encoded of layer 11's law.
-/
import Derived.Test.YtbaappodeicomaaDoorLc
import Derived.Test.YtbaappodeicomaaDoorEf2
set_option maxRecDepth 100000
namespace Go.Proofs.YtbaappodeicomaaDoor
open Go.RowKit

/-- The sizes after each symbol. -/
def zsN (x : Am.X) (l : List (Int × Int)) (k : Nat) : List Int := (List.range k).map fun j => szF (Am.run x (l.take (j + 1))).2
theorem zsN_len (x : Am.X) (l : List (Int × Int)) (k : Nat) : (zsN x l k).length = k := by simp [zsN]
theorem zsN_succ (x : Am.X) (l : List (Int × Int)) (k : Nat) : zsN x l (k + 1) = zsN x l k ++ [szF (Am.run x (l.take (k + 1))).2] := by simp [zsN, List.range_succ]
/-- While symbols are encoded: the encoder, the row of sizes. -/
structure Enc (w0 w : World) (a : Nat) (x : Am.X) (zs : List Int) (sv : Value) (W : World) : Prop where
  ec : Ec W w0.heap.size a x
  kp : Kp a w W
  out : Below w0.heap.size w0 W
  row : W.ownsRow w.heap.size 3 1 sv zs.length (zs.map (Value.int .i64))
  far : ∀ k, sv.ownBlock = some k → ¬ Fp W a k
  le : w0.heap.size ≤ w.heap.size
section
variable {w0 w W W1 : World} {a : Nat} {x x' : Am.X} {zs : List Int} {sv : Value}
theorem Enc.lt (h : Enc w0 w a x zs sv W) {k : Nat} (hk : sv.ownBlock = some k) : k < W.heap.size := by
  obtain ⟨_, ds, hb⟩ := own_foot h.row hk
  exact hb.lt
theorem Enc.step (h : Enc w0 w a x zs sv W) (hb : Below W.heap.size W W1) : Enc w0 w a x zs sv W1 :=
  ⟨h.ec.below hb, h.kp.trans (Kp.of_below hb h.ec.lt), below_call h.out hb, own_below h.row hb, fun k hk hf => h.far k hk ((fp_same (hb.block a h.ec.lt) k).1 hf), h.le⟩
theorem Enc.call (h : Enc w0 w a x zs sv W) (he : Ec W1 w0.heap.size a x') (hk : Kp a W W1) : Enc w0 w a x' zs sv W1 :=
  ⟨he, h.kp.trans hk, h.out.trans (h.ec.out hk), own_keep h.row fun k ho => hk.block k (h.lt ho) (h.far k ho), fun k ho hf => (hk.foot k hf).elim (h.far k ho) fun hge => by have := h.lt ho; omega, h.le⟩
theorem Enc.grow (h : Enc w0 w a x zs sv W) {X : Obj} {w2 : World} {v' : Value} {z : Int} (hown : w2.ownsRow w.heap.size 3 1 v' (zs.length + 1) (zs.map (Value.int .i64) ++ [.int .i64 z])) (hg : (W.alloc X).grownBy w2 sv.ownBlock) (hat : v'.ownBlock = sv.ownBlock ∨ v'.ownBlock = some (W.alloc X).heap.size) :
    Enc w0 w a x (zs ++ [z]) v' w2 := by
  have hsame : ∀ k, k < W.heap.size → sv.ownBlock ≠ some k → w2.heap[k]? = W.heap[k]? := fun k hk hne => (hg.block k (by simp; omega) (fun e => hne e.symm)).trans (Below.heap_alloc W X k hk)
  have ha := hsame a h.ec.lt (fun e => h.far a e (.inl rfl))
  have hsz : W.heap.size ≤ w2.heap.size := by have := hg.size; simp at this; omega
  have hle : ∀ k, sv.ownBlock = some k → w.heap.size ≤ k := fun k hk => (own_foot h.row hk).1
  have hks := h.kp.size
  refine ⟨h.ec.keep fun k hk => hsame k (h.ec.fl k hk) fun e => h.far k e hk, ⟨hg.os.trans h.kp.os, hg.tape.trans h.kp.tape, hg.output.trans h.kp.output, Nat.le_trans hks hsz, fun k hk hf => ?_, fun k hk => h.kp.foot k ((fp_same ha k).1 hk)⟩,
    ⟨hg.os.trans h.out.os, hg.tape.trans h.out.tape, hg.output.trans h.out.output, Nat.le_trans h.out.size hsz, fun k hk => ?_⟩, by simpa using hown, fun k hk hf => ?_, h.le⟩
  · exact (hsame k (by omega) fun e => by have := hle k e; omega).trans (h.kp.block k hk hf)
  · have := h.le
    exact (hsame k (by omega) fun e => by have := hle k e; omega).trans (h.out.block k hk)
  · have hf' := (fp_same ha k).1 hf
    rcases hat with e | e
    · exact h.far k (e ▸ hk) hf'
    · have := h.ec.fl k hf'
      rw [e] at hk
      simp at hk
      omega
end
theorem pair2 {w : World} {g : Nat} {x y : Int} (h : Blk w g 110 #[.int .i64 x, .int .i64 y]) : w.cell? ⟨g, 0, none⟩ = some (.int .i64 x) ∧ w.cell? ⟨g, 1, none⟩ = some (.int .i64 y) := ⟨h.cell 0, h.cell 1⟩
/-- A codeword's block is none of another object's. -/
theorem cw_far {w W1 : World} {a b k : Nat} (hd : Dj w a b) (hfl : ∀ k, Fp w b k → k < w.heap.size) (hk : Kp a w W1) (h : Fp w a k ∨ w.heap.size ≤ k) : ¬ Fp W1 b k := fun hf => by
  have hf' := (fp_same ((hd.kp hk hfl).2 b (.inl rfl)) k).1 hf
  rcases h with h | h
  · exact hd k h hf'
  · have := hfl k hf'; omega
/-- After encoded: the codeword, the sizes. -/
def EncDone (w0 : World) (a : Nat) (x : Am.X) (l : List (Int × Int)) (w : World) (e : Ending) (w' : World) : Prop :=
  ∃ sl m ss p, e = .returned (.tuple #[.slice sl (Am.cw (Am.run x l).2).length m, .slice ss l.length p]) ∧ HoldsB w' sl (Am.cw (Am.run x l).2) ∧ (Am.cw (Am.run x l).2).length ≤ m ∧
    (∀ q, sl = some q → w0.heap.size ≤ q.block ∧ (∃ ds, Blk w' q.block 5 ds) ∧ ¬ Fp w' a q.block ∧ (Fp w a q.block ∨ w.heap.size ≤ q.block)) ∧ (sl = none → Am.cw (Am.run x l).2 = [] ∧ m = 0) ∧
    Enc w0 w a ((Am.run x l).1, Am.St.init) (zsN x l l.length) (.slice ss l.length p) w'
theorem take_snoc {l : List (Int × Int)} {k : Nat} (h : k < l.length) : l.take (k + 1) = l.take k ++ [l[k]] := by rw [List.take_succ_eq_append_getElem h]
set_option maxHeartbeats 4000000 in
theorem encoded_c (w0 w : World) (a n : Nat) (x : Am.X) (l : List (Int × Int)) (s : Option Addr) (m : Nat) (h : Ec w w0.heap.size a x) (hb : Below w0.heap.size w0 w) (hO : HoldsP w0 s l) (hx : Am.OkX x) (hn : x.1.length = n) (hn2 : n ≤ 64) (hs : ∀ y ∈ l, Am.sym n y) (hxn : x.2.n ≤ 1000) (hl : l.length ≤ 2000) :
    Calls Tryd.prog 41 #[.pointer (some ⟨a, 0, none⟩), .slice s l.length m] w (EncDone w0 a x l w) := by
  obtain ⟨i0, hi, hz0, hz1, hz2⟩ := info_parts infoI
  have HO := Lib.hid hO
  have HS := Lib.hid hs
  have HX := Lib.hid hx
  have HN := Lib.hid hn
  have hI : Hid (Enc w0 w a x [] (.slice (some ⟨w.heap.size, 0, none⟩) 0 0) (w.alloc (.cells #[] 3))) := by
    have hA : Below w.heap.size w (w.alloc (.cells #[] 3)) := (Below.refl _ _).alloc (Nat.le_refl _) _
    refine ⟨h.below hA, Kp.of_below hA h.lt, below_call hb hA, World.ownsRow_made w #[] 0 (Nat.le_refl _) (by decide) (by simp), fun k hk hf => ?_, hb.size⟩
    simp [Value.ownBlock] at hk
    subst hk
    have := h.fl _ ((fp_same (hA.block a h.lt) _).1 hf)
    omega
  clear h hb hO hs hx hn
  go_enter Tryd.func41, Tryd.ntmps41
  go_wp2_with fail
  go_loopw [6, 12] (fun z i wr => ∃ (k : Nat) (sv : Value), k ≤ l.length ∧ i = .int .i64 (k : Int) ∧ z = sv ∧ Hid (Enc w0 w a (Am.run x (l.take k)) (zsN x l k) sv wr)) (fun _ i _ => l.length - (intOf i).toNat)
  case atStart => exact ⟨0, _, Nat.zero_le _, rfl, rfl, hI⟩
  case round =>
    obtain ⟨k, sv, hk, rfl, hz6, hT⟩ := hrel
    have hrow := hT.out.row
    rw [zsN_len] at hrow
    obtain ⟨s5, m5, rfl⟩ := own_slice hrow
    subst hz6
    clear hrow
    have hOk : Hid (Am.OkX (Am.run x (l.take k))) := Am.run_ok _ _ HX.out HN.out (fun y hy => HS.out y (List.mem_of_mem_take hy))
    have hLen : Hid ((Am.run x (l.take k)).1.length = n) := by show _ = _; rw [Am.run_len]; exact HN.out
    have hNn : Hid ((Am.run x (l.take k)).2.n ≤ 1000 + k) := by
      have := (Am.run_n (l.take k) x HX.out HN.out (fun y hy => HS.out y (List.mem_of_mem_take hy))).2
      have h2 : (l.take k).length ≤ k := List.length_take_le _ _
      show _ ≤ _
      omega
    by_cases hlt : k < l.length
    · obtain ⟨bo, off, rfl, hr⟩ := (HO.out.below hT.out.out (Nat.le_refl _)).at hlt
      obtain ⟨c0, c1⟩ := hr
      have hsy := HS.out _ (List.getElem_mem hlt)
      have hst : Hid (Am.run x (l.take (k + 1)) = Am.step (Am.run x (l.take k)) l[k]) := by show _ = _; rw [take_snoc hlt, Am.run_snoc]
      obtain ⟨q, hq⟩ : ∃ q, q = l[k] := ⟨_, rfl⟩
      obtain ⟨q0, q1⟩ := q
      rw [← hq] at c0 c1 hst hsy
      dsimp only at c0 c1
      clear hq
      have T0 := hT.out.step ((Below.refl _ _).alloc (Nat.le_refl _) (.cells #[.int .i64 q0, .int .i64 q1] 110))
      have henc := enc_y _ _ a _ q0 q1 T0.ec hOk.out ⟨hsy.1, by rw [hLen.out]; exact hsy.2.1, hsy.2.2⟩ (by rw [hLen.out]; exact hn2) (by have := hNn.out; omega)
      rw [← hst.out] at henc
      have HT0 := Lib.hid T0
      have hn1 : Hid ((Am.run x (l.take (k + 1))).2.n ≤ 1000 + (k + 1)) := by
        have := (Am.run_n (l.take (k + 1)) x HX.out HN.out (fun y hy => HS.out y (List.mem_of_mem_take hy))).2
        have h2 : (l.take (k + 1)).length ≤ k + 1 := List.length_take_le _ _
        show _ ≤ _
        omega
      clear T0 hsy
      go_wp2_with fail
      refine henc.mono ?_
      rintro e W1 ⟨rfl, hE1, hK1⟩
      have T1 := Lib.hid (HT0.out.call hE1 hK1)
      clear hE1 hK1 henc
      have hsz := esize_c W1 _ a _ T1.out.ec (by have := hn1.out; omega)
      obtain ⟨z, hz⟩ : ∃ z, z = szF (Am.run x (l.take (k + 1))).2 := ⟨_, rfl⟩
      rw [← hz] at hsz
      have HZ := Lib.hid hz
      clear hz
      have hsv : W1.ownsRow w.heap.size 3 1 (.slice s5 k m5) k ((zsN x l k).map (Value.int .i64)) := by have := T1.out.row; rwa [zsN_len] at this
      have HSV := Lib.hid hsv
      have hws : w.heap.size ≤ W1.heap.size := T1.out.kp.size
      clear hsv
      go_wp2_with fail
      refine hsz.mono ?_
      rintro e wn ⟨rfl, rfl⟩
      go_wp2_with (first | (at_builtin; refine wpList_append_own_at _ rfl _ _ 54 rfl w.heap.size 3 i0 (.int .i64 0) 1 8 Tryd.underlying54 hi hz0 hz1 hz2 rfl (by decide) _ k _ rfl (own_below HSV.out ((Below.refl _ _).alloc (Nat.le_refl _) _)) ⟨W1.heap.size, 0, none⟩ 1 1 [.int .i64 z] rfl rfl (one_new8 _ _ _) (by intro u hu; simp at hu; subst hu; rfl) (by unfold maxLen; omega) (by omega) (by simp; omega) ?_))
      intro v' w2 hown hgrow _ hat
      have T2 := Lib.hid (T1.out.grow (by rw [zsN_len]; exact hown) hgrow (hat.imp id fun e => e.trans (by simp)))
      clear hown hgrow hat
      go_wp2_with fail
      go_roundw
      case rel =>
        refine ⟨k + 1, v', by omega, by go_num, rfl, ?_⟩
        have := T2.out
        rw [HZ.out, ← zsN_succ] at this
        exact this
      case measure => simp [intOf]; omega
    · obtain rfl : k = l.length := by omega
      rw [List.take_length] at hT hOk hNn
      have htm := eterm2_c _ _ a _ hT.out.ec hOk.out.st (by have := hNn.out; omega)
      go_wp2_with fail
      refine htm.mono ?_
      rintro e W1 ⟨sl, ml, rfl, hH, hm1, hq, hn0, hE1, hK1⟩
      have T1 := Lib.hid (hT.out.call hE1 hK1)
      clear hE1 hK1 htm
      go_wp2_with fail
      go_ret2
      exact ⟨sl, ml, s5, m5, rfl, hH, hm1, fun p hp => ⟨(hq p hp).1, (hq p hp).2.1, (hq p hp).2.2.1, (hq p hp).2.2.2.elim (fun h => hT.out.kp.foot _ h) fun h => .inr (Nat.le_trans hT.out.kp.size h)⟩, hn0, T1.out⟩
end Go.Proofs.YtbaappodeicomaaDoor
