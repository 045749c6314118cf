/-
  Layer 23: contracts of slices.Max at integers, of counts' most and addTo.
-/
import Derived.Test.YtkcjbehfhcmiaaaHe
import Derived.BigQuiet
set_option maxRecDepth 100000
namespace Go.Proofs.Ytkcjbehfhcmiaaa
open Go.RowKit

theorem mx_take {l : List Int} {k : Nat} (h0 : 1 ≤ k) (hk : k < l.length) : Hp.mxL (l.take (k + 1)) = max (Hp.mxL (l.take k)) l[k] := by
  match l with
  | [] => simp at hk
  | x :: l =>
    obtain ⟨j, rfl⟩ : ∃ j, k = j + 1 := ⟨k - 1, by omega⟩
    have hj : j < l.length := by simpa using hk
    simp only [List.take_succ_cons, Hp.mxL, List.getElem_cons_succ]
    rw [List.take_succ_eq_append_getElem hj, List.foldl_append]
    rfl
set_option maxHeartbeats 2000000 in
theorem max_c (l : List Int) (s : Option Addr) (m : Nat) (W : World) (hl : l.length ≤ 4398046511104) (h0 : 0 < l.length) (hH : HoldsI W s l) : Calls Try.prog 76 #[.slice s l.length m] W fun e w' => e = .returned (.int .i64 (Hp.mxL l)) ∧ w' = W := by
  rcases hH with rfl | ⟨b, off, rfl, hr⟩
  · simp at h0
  have y0 := hr 0 h0
  simp only [Nat.add_zero] at y0
  have t0 : ¬ (l.length : Int) < 1 := by omega
  have e1 : Hp.mxL (l.take 1) = l[0] := by
    match l, h0 with
    | x :: l, _ => rfl
  have HE := Lib.hid e1
  clear e1
  generalize l[0] = V0 at *
  have hmx := hmx
  go_enter Try.func76, Try.ntmps76
  go_wp2_with fail
  go_loopw [3, 4] (fun v i wr => ∃ k : Nat, 1 ≤ k ∧ k ≤ l.length ∧ i = .int .i64 k ∧ v = .int .i64 (Hp.mxL (l.take k)) ∧ W = wr) (fun _ i _ => l.length - (intOf i).toNat)
  case atStart => exact ⟨1, Nat.le_refl _, h0, rfl, by rw [HE.out], rfl⟩
  case round =>
    obtain ⟨k, hk1, hk, rfl, rfl, rfl⟩ := hrel
    by_cases hlt : k < l.length
    · have yk := hr k hlt
      have hki : (k : Int) < (l.length : Int) := by omega
      have w2 : IntKind.i64.wrap ((k : Int) + 1) = (k : Int) + 1 := IntWalk.i64_in _ (by omega)
      have HN := Lib.hid (mx_take hk1 hlt)
      generalize l[k] = V at *
      clear y0
      go_wp2_with fail
      go_roundw
      case rel => exact ⟨k + 1, by omega, by omega, by go_num, by rw [HN.out], by first | trivial | rfl⟩
      case measure => simp [intOf]; omega
    · obtain rfl : k = l.length := by omega
      have HT := Lib.hid (show Hp.mxL (l.take l.length) = Hp.mxL l by rw [List.take_length])
      go_wp2_with fail
      go_ret
      exact ⟨congrArg (fun b => Ending.returned (.int .i64 b)) HT.out, rfl⟩
/-- All blocks but one are as they were. -/
structure But (g : Nat) (W w : World) : Prop where
  os : w.os = W.os
  tape : w.tape = W.tape
  output : w.output = W.output
  size : W.heap.size ≤ w.heap.size
  block : ∀ k, k < W.heap.size → k ≠ g → w.heap[k]? = W.heap[k]?
theorem But.refl (g : Nat) (W : World) : But g W W := ⟨rfl, rfl, rfl, Nat.le_refl _, fun _ _ _ => rfl⟩
theorem But.of {g : Nat} {W w : World} (h : Below W.heap.size W w) : But g W w := ⟨h.os, h.tape, h.output, h.size, fun k hk _ => h.block k hk⟩
theorem But.set {g j : Nat} {W w : World} (h : But g W w) (v : Value) : But g W (w.setCell ⟨g, j, none⟩ v) :=
  ⟨h.os, h.tape, h.output, by simpa using h.size, fun k hk hn => (Below.heap_setCell _ _ _ _ hn).trans (h.block k hk hn)⟩
theorem But.trans {g : Nat} {a b c : World} (h : But g a b) (k : But g b c) : But g a c := ⟨k.os.trans h.os, k.tape.trans h.tape, k.output.trans h.output, Nat.le_trans h.size k.size, fun i hi hn => (k.block i (Nat.lt_of_lt_of_le hi h.size) hn).trans (h.block i hi hn)⟩
theorem But.below {B g : Nat} {a W w : World} (h : Below B a W) (k : But g W w) (hg : B ≤ g) (hB : B ≤ W.heap.size) : Below B a w :=
  ⟨k.os.trans h.os, k.tape.trans h.tape, k.output.trans h.output, Nat.le_trans h.size k.size, fun i hi => (k.block i (by omega) (by omega)).trans (h.block i hi)⟩
theorem But.cell {g b o : Nat} {W w : World} {v : Value} (h : But g W w) (hc : W.cell? ⟨b, o, none⟩ = some v) (hn : b ≠ g) : w.cell? ⟨b, o, none⟩ = some v := (World.cell?_of_block (w := W) (h.block b (cell_lt hc) hn)).trans hc
theorem But.blk {g b : Nat} {t : TypeId} {cs : Array Value} {W w : World} (h : But g W w) (hc : Blk W b t cs) (hn : b ≠ g) : Blk w b t cs := (h.block b hc.lt hn).trans hc
/-- The totals when the first T of them are added to. -/
def addT (xs ys : List Int) (n : Nat) (l : List Int) (T : Nat) : List Int := (List.range l.length).map fun t => if t < T then l.getD t 0 + xs.getD (t % n) 0 * ys.getD (t / n) 0 else l.getD t 0
theorem addT_len (xs ys : List Int) (n : Nat) (l : List Int) (T : Nat) : (addT xs ys n l T).length = l.length := by simp [addT]
theorem addT_zero (xs ys : List Int) (n : Nat) (l : List Int) : addT xs ys n l 0 = l := by
  refine List.ext_getElem (by simp [addT]) fun i h1 h2 => ?_
  simp [addT, List.getD_eq_getElem?_getD, h2]
theorem addT_all (xs ys : List Int) (n : Nat) (l : List Int) : addT xs ys n l l.length = Hp.addL xs ys n l := by
  refine List.ext_getElem (by simp [addT, Hp.addL]) fun i h1 h2 => ?_
  have h3 : i < l.length := by simpa [addT] using h1
  simp [addT, Hp.addL, h3]
theorem addT_at (xs ys : List Int) (n : Nat) (l : List Int) {T : Nat} (hT : T < l.length) (h : T < (addT xs ys n l T).length) : (addT xs ys n l T)[T] = l[T] := by
  simp [addT, List.getD_eq_getElem?_getD, hT]
theorem addT_next (xs ys : List Int) (n : Nat) (l : List Int) {T : Nat} (hT : T < l.length) : (addT xs ys n l T).set T (l[T] + xs.getD (T % n) 0 * ys.getD (T / n) 0) = addT xs ys n l (T + 1) := by
  refine List.ext_getElem (by simp [addT]) fun i h1 h2 => ?_
  have h3 : i < l.length := by simpa [addT] using h2
  rw [List.getElem_set]
  by_cases e : T = i
  · subst e
    simp [addT, List.getD_eq_getElem?_getD, hT]
  · rw [if_neg e]
    simp only [addT, List.getElem_map, List.getElem_range]
    by_cases q : i < T
    · rw [if_pos q, if_pos (by omega)]
    · rw [if_neg q, if_neg (by omega)]
theorem jx_wrap {JX : Nat} (hb : JX ≤ 4096 * 4096) : wrap64 (JX : Int) = (JX : Int) := IntWalk.wrap64_in _ ⟨by omega, by omega⟩
theorem idx_wrap {JX k T : Nat} (h : JX + k = T) (hb : JX ≤ 4096 * 4096) (hk : k ≤ 4096) : IntKind.i64.wrap ((JX : Int) + (k : Int)) = (T : Int) := by
  rw [IntWalk.i64_in _ (by omega)]; omega
set_option maxHeartbeats 4000000 in
theorem addTo_c (xs ys l : List Int) (s1 s2 : Option Addr) (m1 m2 m3 g : Nat) (W : World) (hx : HoldsI W s1 xs) (hy : HoldsI W s2 ys) (hg : RowAt W g l) (f1 : ∀ o, s1 ≠ some ⟨g, o, none⟩) (f2 : ∀ o, s2 ≠ some ⟨g, o, none⟩)
    (bx : ∀ v ∈ xs, 0 ≤ v ∧ v ≤ 4096) (by' : ∀ v ∈ ys, 0 ≤ v ∧ v ≤ 4096) (bl : ∀ v ∈ l, 0 ≤ v ∧ v ≤ 1099511627776) (n1 : xs.length ≤ 4096) (n2 : ys.length ≤ 4096) (hn : l.length = ys.length * xs.length) :
    Calls Try.prog 70 #[.agg #[.slice s1 xs.length m1, .slice s2 ys.length m2], .slice (some ⟨g, 0, none⟩) l.length m3] W fun e w' => e = .returned (.tuple #[]) ∧ But g W w' ∧ RowAt w' g (Hp.addL xs ys xs.length l) := by
  obtain ⟨WB, hWB⟩ : ∃ x, x = W.alloc (.cells #[.slice s1 xs.length m1, .slice s2 ys.length m2] 82) := ⟨_, rfl⟩
  have hX : Blk WB W.heap.size 82 #[.slice s1 xs.length m1, .slice s2 ys.length m2] := by rw [hWB]; exact Blk.new _ _ _
  have hB : Below W.heap.size W WB := by rw [hWB]; exact below_alloc (Below.refl _ _) (Nat.le_refl _) _
  have HX := Lib.hid hX
  have HB := Lib.hid hB
  have HRW := Lib.hid (hg.alloc (.cells #[.slice s1 xs.length m1, .slice s2 ys.length m2] 82))
  rw [← hWB] at HRW
  have hgl : g ≠ W.heap.size := Nat.ne_of_lt hg.lt
  have HG := Lib.hid hgl
  have HXS := Lib.hid (hx.below hB (Nat.le_refl _))
  have HYS := Lib.hid (hy.below hB (Nat.le_refl _))
  have HN := Lib.hid hn
  clear hX hB hx hy hg hgl hn
  go_enter Try.func70, Try.ntmps70
  go_upto_region 1 with fail
  rw [← hWB]
  have HWB := Lib.hid hWB
  clear hWB
  obtain ⟨x0, x1⟩ := HX.out.two
  go_wp2_with fail
  clear x0 x1
  go_loopw [11] (fun i wr => ∃ j : Nat, j ≤ ys.length ∧ i = .int .i64 j ∧ But g WB wr ∧ RowAt wr g (addT xs ys xs.length l (j * xs.length))) (fun i _ => ys.length - (intOf i).toNat)
  case atStart => exact ⟨0, Nat.zero_le _, rfl, But.refl _ _, by rw [Nat.zero_mul, addT_zero]; exact HRW.out⟩
  case round =>
    obtain ⟨j, hj, rfl, hbt, hrw⟩ := hrel
    have HBT := Lib.hid hbt
    have HR := Lib.hid hrw
    clear hbt hrw
    by_cases hlt : j < ys.length
    · have hki : (j : Int) < (ys.length : Int) := by omega
      have w2 : IntKind.i64.wrap ((j : Int) + 1) = (j : Int) + 1 := IntWalk.i64_in _ (by omega)
      rcases HYS.out with q | ⟨b2, o2, rfl, hr2⟩
      · rw [q] at hlt; simp at hlt
      have yj := HBT.out.cell (hr2 j hlt) (fun e => f2 o2 (by rw [e]))
      have BYj := Lib.hid (by' _ (List.getElem_mem hlt))
      have HYJ := Lib.hid (show ys.getD j 0 = ys[j] by rw [List.getD_eq_getElem?_getD]; simp [hlt])
      generalize ys[j] = Y at *
      have z0 := HBT.out.cell (HX.out.get 0 (v := .slice s1 xs.length m1) rfl) HG.out.symm
      go_wp2_with fail
      clear z0 yj
      go_loopw [19] (fun i wr' => ∃ k : Nat, k ≤ xs.length ∧ i = .int .i64 k ∧ But g WB wr' ∧ RowAt wr' g (addT xs ys xs.length l (j * xs.length + k))) (fun i _ => xs.length - (intOf i).toNat)
      case atStart => exact ⟨0, Nat.zero_le _, rfl, HBT.out, HR.out⟩
      case round =>
        obtain ⟨k, hk, rfl, hbt2, hrw2⟩ := hrel
        have HBT2 := Lib.hid hbt2
        have HR2 := Lib.hid hrw2
        clear hbt2 hrw2
        by_cases hlk : k < xs.length
        · have hkx : (k : Int) < (xs.length : Int) := by omega
          have w3 : IntKind.i64.wrap ((k : Int) + 1) = (k : Int) + 1 := IntWalk.i64_in _ (by omega)
          rcases HXS.out with q | ⟨b1, o1, rfl, hr1⟩
          · rw [q] at hlk; simp at hlk
          have xk := HBT2.out.cell (hr1 k hlk) (fun e => f1 o1 (by rw [e]))
          have BXk := Lib.hid (bx _ (List.getElem_mem hlk))
          have hT : j * xs.length + k < l.length := by
            have := Nat.mul_le_mul_right xs.length (show j + 1 ≤ ys.length from hlt)
            rw [Nat.add_mul, Nat.one_mul] at this
            rw [HN.out]; omega
          have HXK := Lib.hid (show xs.getD k 0 = xs[k] by rw [List.getD_eq_getElem?_getD]; simp [hlk])
          have BLk := Lib.hid (bl _ (List.getElem_mem hT))
          have HNX := addT_next xs ys xs.length l hT
          rw [show (j * xs.length + k) % xs.length = k by rw [Nat.mul_comm, Nat.mul_add_mod]; exact Nat.mod_eq_of_lt hlk, show (j * xs.length + k) / xs.length = j by rw [Nat.mul_comm, Nat.mul_add_div (by omega), Nat.div_eq_of_lt hlk]; omega, HXK.out, HYJ.out] at HNX
          have tk := HR2.out.at (k := j * xs.length + k) (by rw [addT_len]; exact hT)
          rw [addT_at xs ys xs.length l hT] at tk
          have tf := HR2.out.free (j * xs.length + k)
          generalize xs[k] = X at *
          generalize l[j * xs.length + k]'hT = L at *
          have pz : 0 ≤ X * Y ∧ X * Y ≤ 16777216 := by
            have a := BXk.out
            have b := BYj.out
            exact ⟨Int.mul_nonneg a.1 b.1, by have := Int.mul_le_mul a.2 b.2 b.1 (by decide); omega⟩
          obtain ⟨PR, hPR⟩ : ∃ q, X * Y = q := ⟨_, rfl⟩
          rw [hPR] at HNX pz
          have w4 : wrap64 (X * Y) = PR := by rw [hPR]; exact IntWalk.wrap64_in _ ⟨by omega, by omega⟩
          have bL := BLk.out
          have w5 : IntKind.i64.wrap (L + PR) = L + PR := IntWalk.i64_in _ (by omega)
          obtain ⟨T, hTT⟩ : ∃ T, j * xs.length + k = T := ⟨_, rfl⟩
          obtain ⟨JX, hJX⟩ : ∃ q : Nat, j * xs.length = q := ⟨_, rfl⟩
          have w6 : wrap64 ((j : Int) * (xs.length : Int)) = (JX : Int) := by
            rw [← Int.natCast_mul, hJX]
            exact jx_wrap (hJX ▸ Nat.mul_le_mul (Nat.le_trans (Nat.le_of_lt hlt) n2) n1)
          have w7 : IntKind.i64.wrap ((JX : Int) + (k : Int)) = (T : Int) := by
            exact idx_wrap (hJX ▸ hTT) (hJX ▸ Nat.mul_le_mul (Nat.le_trans (Nat.le_of_lt hlt) n2) n1) (Nat.le_trans hk n1)
          rw [hTT] at tk tf HNX hT
          have HTT := Lib.hid hTT
          have hTi : (T : Int) < (l.length : Int) := by omega
          have HS := Lib.hid (HR2.out.set T (L + PR))
          rw [hTT, HNX] at HS
          have HBS := Lib.hid (HBT2.out.set (j := T) (.int .i64 (L + PR)))
          have HNX := Lib.hid HNX
          have z0 := HBT2.out.cell (HX.out.get 0 (v := .slice (some ⟨b1, o1, none⟩) xs.length m1) rfl) HG.out.symm
          clear hPR hJX hTT pz bL hT
          go_wp2_with fail
          go_roundw
          case rel => exact ⟨k + 1, by omega, by go_num, HBS.out, by rw [← Nat.add_assoc, HTT.out]; exact HS.out⟩
          case measure => simp [intOf]; omega
        · obtain rfl : k = xs.length := by omega
          go_wp2_with fail
          go_roundw
          case rel => exact ⟨j + 1, by omega, by go_num, HBT2.out, by rw [Nat.add_mul, Nat.one_mul]; exact HR2.out⟩
          case measure => simp [intOf]; omega
    · obtain rfl : j = ys.length := by omega
      have HF := Lib.hid (addT_all xs ys xs.length l)
      go_wp2_with fail
      first | go_end0 | go_ret
      exact ⟨rfl, (But.of HB.out).trans HBT.out, by rw [← HF.out, HN.out]; exact HR.out⟩
end Go.Proofs.Ytkcjbehfhcmiaaa
