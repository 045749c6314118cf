/-
  Layer 27: contract of write: a synchronization marker into bytes of a block.
-/
import Derived.Test.YtpnnmibdboelpaaCe
set_option maxRecDepth 100000
namespace Go.Proofs.Ytpnnmibdboelpaa
open Go.RowKit

def hd10 (q n c : Int) : List Int := Mk.dg 65459 2 ++ (Mk.dg q 2 ++ (Mk.dg n 4 ++ Mk.dg c 2))
def mkB (q n c : Int) : List Int := hd10 q n c ++ [chk (hd10 q n c)]
theorem hd10_len (q n c : Int) : (hd10 q n c).length = 10 := by simp [hd10, Mk.dg_len]
theorem mkB_len (q n c : Int) : (mkB q n c).length = 11 := by simp [mkB, hd10_len]
theorem hd10_bytes (q n c : Int) : Mk.bytes (hd10 q n c) := Mk.bytes_app (Mk.dg_bytes _ _) (Mk.bytes_app (Mk.dg_bytes _ _) (Mk.bytes_app (Mk.dg_bytes _ _) (Mk.dg_bytes _ _)))
theorem mkB_bytes (q n c : Int) : Mk.bytes (mkB q n c) := Mk.bytes_app (hd10_bytes _ _ _) (fun x hx => by simp at hx; subst hx; have := chk_bd (hd10 q n c); omega)
theorem pt_at (A X B : List Int) (v : Int) (n : Nat) (hX : X.length = n) : pt (A ++ (X ++ B)) A.length v n = A ++ (Mk.dg v n ++ B) := by
  subst hX
  unfold pt
  have e : (A ++ (X ++ B)).drop (A.length + X.length) = B := by rw [← List.append_assoc, ← List.length_append, List.drop_left]
  rw [List.take_left, e]
/-- The four numbers, one behind the other. -/
theorem pt_four (l : List Int) (off : Nat) (q n c : Int) (h : off + 11 ≤ l.length) :
    pt (pt (pt (pt l off 65459 2) (off + 2) q 2) (off + 4) n 4) (off + 8) c 2 = l.take off ++ (hd10 q n c ++ l.drop (off + 10)) := by
  have hA : (l.take off).length = off := by simp; omega
  have d2 : l.drop off = (l.drop off).take 2 ++ l.drop (off + 2) := by rw [← List.drop_drop, List.take_append_drop]
  have d4 : l.drop (off + 2) = (l.drop (off + 2)).take 2 ++ l.drop (off + 4) := by
    have := (List.take_append_drop 2 (l.drop (off + 2))).symm
    rwa [List.drop_drop, show off + 2 + 2 = off + 4 by omega] at this
  have d8 : l.drop (off + 4) = (l.drop (off + 4)).take 4 ++ l.drop (off + 8) := by
    have := (List.take_append_drop 4 (l.drop (off + 4))).symm
    rwa [List.drop_drop, show off + 4 + 4 = off + 8 by omega] at this
  have d10 : l.drop (off + 8) = (l.drop (off + 8)).take 2 ++ l.drop (off + 10) := by
    have := (List.take_append_drop 2 (l.drop (off + 8))).symm
    rwa [List.drop_drop, show off + 8 + 2 = off + 10 by omega] at this
  have e1 : pt l off 65459 2 = l.take off ++ (Mk.dg 65459 2 ++ l.drop (off + 2)) := rfl
  have e2 : pt (pt l off 65459 2) (off + 2) q 2 = (l.take off ++ Mk.dg 65459 2) ++ (Mk.dg q 2 ++ l.drop (off + 4)) := by
    rw [e1, d4]
    have := pt_at (l.take off ++ Mk.dg 65459 2) ((l.drop (off + 2)).take 2) (l.drop (off + 4)) q 2 (by simp; omega)
    rw [show (l.take off ++ Mk.dg 65459 2).length = off + 2 by rw [List.length_append, hA, Mk.dg_len]] at this
    rw [← List.append_assoc (l.take off)]
    exact this
  have e3 : pt (pt (pt l off 65459 2) (off + 2) q 2) (off + 4) n 4 = (l.take off ++ Mk.dg 65459 2 ++ Mk.dg q 2) ++ (Mk.dg n 4 ++ l.drop (off + 8)) := by
    rw [e2, d8]
    have := pt_at (l.take off ++ Mk.dg 65459 2 ++ Mk.dg q 2) ((l.drop (off + 4)).take 4) (l.drop (off + 8)) n 4 (by simp; omega)
    rw [show (l.take off ++ Mk.dg 65459 2 ++ Mk.dg q 2).length = off + 4 by rw [List.length_append, List.length_append, hA, Mk.dg_len, Mk.dg_len]] at this
    rw [← List.append_assoc (l.take off ++ Mk.dg 65459 2)]
    exact this
  rw [e3, d10]
  have := pt_at (l.take off ++ Mk.dg 65459 2 ++ Mk.dg q 2 ++ Mk.dg n 4) ((l.drop (off + 8)).take 2) (l.drop (off + 10)) c 2 (by simp; omega)
  rw [show (l.take off ++ Mk.dg 65459 2 ++ Mk.dg q 2 ++ Mk.dg n 4).length = off + 8 by rw [List.length_append, List.length_append, List.length_append, hA, Mk.dg_len, Mk.dg_len, Mk.dg_len]] at this
  rw [← List.append_assoc (l.take off ++ Mk.dg 65459 2 ++ Mk.dg q 2), this]
  simp [hd10]
theorem holds_blk {w : World} {g : Nat} {l : List Int} (h : Blk w g 5 (blkB l)) (off n : Nat) : HoldsB w (some ⟨g, off, none⟩) ((l.drop off).take n) := by
  refine .inr ⟨g, off, rfl, fun k hk => ?_⟩
  simp at hk
  rw [h.cell, blkB, List.getElem?_toArray, List.getElem?_map, List.getElem?_eq_getElem (by omega), Option.map_some, List.getElem_take, List.getElem_drop]
structure Wt (g : Nat) (l : List Int) (gm : Nat) (q n c : Int) (w wr : World) : Prop where
  blk : Blk wr g 5 (blkB l)
  mark : Blk wr gm 62 #[.int .i64 q, .int .i64 n, .int .i64 c]
  on : On g w wr
theorem Wt.put {g gm : Nat} {l l2 : List Int} {q n c : Int} {w wr w2 : World} (h : Wt g l gm q n c w wr) (hb : Blk w2 g 5 (blkB l2)) (ho : On g wr w2) (hn : gm ≠ g) : Wt g l2 gm q n c w w2 := ⟨hb, ho.blk h.mark hn, h.on.trans ho⟩
set_option maxHeartbeats 2000000 in
theorem write_c (l : List Int) (g off M : Nat) (q n c : Int) (w : World) (hB : Blk w g 5 (blkB l)) (hl : off + 11 ≤ l.length) (hM : 11 ≤ M) (hby : Mk.bytes l) :
    Calls Try.prog 22 #[.agg #[.int .i64 q, .int .i64 n, .int .i64 c], .slice (some ⟨g, off, none⟩) 11 M] w (GivesPut g (l.take off ++ (mkB q n c ++ l.drop (off + 11))) w) := by
  obtain ⟨W0, hW0⟩ : ∃ W0, W0 = w.alloc (.cells #[.int .i64 q, .int .i64 n, .int .i64 c] 62) := ⟨_, rfl⟩
  have hgl := hB.lt
  have HT0 := Lib.hid (show Wt g l w.heap.size q n c w W0 from ⟨by rw [hW0]; exact hB.alloc _, by rw [hW0]; exact Blk.new _ _ _, On.of_below (by rw [hW0]; exact (Below.refl _ _).alloc (Nat.le_refl _) _)⟩)
  have HW0 := Lib.hid hW0
  have HNE := Lib.hid (show w.heap.size ≠ g by omega)
  obtain ⟨l1, hl1⟩ : ∃ x, x = pt l off 65459 2 := ⟨_, rfl⟩
  obtain ⟨l2, hl2⟩ : ∃ x, x = pt l1 (off + 2) q 2 := ⟨_, rfl⟩
  obtain ⟨l3, hl3⟩ : ∃ x, x = pt l2 (off + 4) n 4 := ⟨_, rfl⟩
  obtain ⟨l4, hl4⟩ : ∃ x, x = pt l3 (off + 8) c 2 := ⟨_, rfl⟩
  have n1 : l1.length = l.length := by rw [hl1]; exact pt_len _ _ _ _ (by omega)
  have n2 : l2.length = l.length := by rw [hl2, pt_len _ _ _ _ (by omega)]; exact n1
  have n3 : l3.length = l.length := by rw [hl3, pt_len _ _ _ _ (by omega)]; exact n2
  have h4 : l4 = l.take off ++ (hd10 q n c ++ l.drop (off + 10)) := by rw [hl4, hl3, hl2, hl1]; exact pt_four l off q n c hl
  have K1 := Lib.hid (show Calls Try.prog 21 #[.slice (some ⟨g, off, none⟩) 2 M, .int .i64 65459] W0 (GivesPut g l1 W0) by rw [hl1]; exact put_c l g off 2 M 65459 W0 HT0.out.blk (by omega) (by omega))
  have K2 := Lib.hid (fun (W : World) (h : Blk W g 5 (blkB l1)) => (show Calls Try.prog 21 #[.slice (some ⟨g, off + 2, none⟩) 2 (M - 2), .int .i64 q] W (GivesPut g l2 W) by rw [hl2]; exact put_c l1 g (off + 2) 2 _ q W h (by omega) (by omega)))
  have K3 := Lib.hid (fun (W : World) (h : Blk W g 5 (blkB l2)) => (show Calls Try.prog 21 #[.slice (some ⟨g, off + 4, none⟩) 4 (M - 4), .int .i64 n] W (GivesPut g l3 W) by rw [hl3]; exact put_c l2 g (off + 4) 4 _ n W h (by omega) (by omega)))
  have K4 := Lib.hid (fun (W : World) (h : Blk W g 5 (blkB l3)) => (show Calls Try.prog 21 #[.slice (some ⟨g, off + 8, none⟩) 2 (M - 8), .int .i64 c] W (GivesPut g l4 W) by rw [hl4]; exact put_c l3 g (off + 8) 2 _ c W h (by omega) (by omega)))
  have hA : (l.take off).length = off := by simp; omega
  have hdr : l4.drop off = hd10 q n c ++ l.drop (off + 10) := by
    have e := List.drop_left (l₁ := l.take off) (l₂ := hd10 q n c ++ l.drop (off + 10))
    rw [hA] at e
    rw [h4]
    exact e
  have h10 : ((l4.drop off).take 11).take 10 = hd10 q n c := by
    rw [hdr, List.take_take, show min 10 11 = 10 by decide, ← hd10_len q n c, List.take_left]
  have hlen4 : l4.length = l.length := by rw [hl4, pt_len _ _ _ _ (by omega)]; exact n3
  have KC := Lib.hid (fun (W : World) (h : Blk W g 5 (blkB l4)) => (show Calls Try.prog 33 #[.slice (some ⟨g, off, none⟩) 11 M] W (fun e w' => e = .returned (.int .u8 (chk (hd10 q n c))) ∧ W = w') by
    have hb4 : Mk.bytes ((l4.drop off).take 11) := Mk.bytes_take (by rw [hdr]; exact Mk.bytes_app (hd10_bytes _ _ _) (Mk.bytes_drop hby _)) _
    have hle : ((l4.drop off).take 11).length = 11 := by simp; omega
    have := check_c ((l4.drop off).take 11) (some ⟨g, off, none⟩) M W (holds_blk h off 11) hb4 (by omega) (by omega)
    rw [h10, hle] at this
    exact this))
  have hset : l4.set (off + 10) (chk (hd10 q n c)) = l.take off ++ (mkB q n c ++ l.drop (off + 11)) := by
    rw [h4, List.set_append_right _ _ (by omega), hA, List.set_append_right _ _ (by rw [hd10_len]; omega), hd10_len, show off + 10 - off - 10 = 0 by omega]
    have : l.drop (off + 10) = l[off + 10] :: l.drop (off + 11) := List.drop_eq_getElem_cons (by omega)
    rw [this, List.set_cons_zero]
    simp [mkB]
  have HSET := Lib.hid hset
  have HL4 := Lib.hid (show off + 10 < l4.length by omega)
  clear hset h10 hdr hA h4 hlen4 n1 n2 n3 hl1 hl2 hl3 hl4 hB hW0 hby
  have m2 : (2 : Int) ≤ (M : Int) := by omega
  have m4 : (4 : Int) ≤ (M : Int) := by omega
  have m8 : (8 : Int) ≤ (M : Int) := by omega
  have m10 : (10 : Int) ≤ (M : Int) := by omega
  go_enter Try.func22, Try.ntmps22
  go_upto_region 1 with fail
  rw [← HW0.out]
  go_upto_region 2 with (first | (go_at_call 21; (with_reducible refine K1.out.mono ?_); rintro e w1 ⟨rfl, hb, ho⟩; have HT1 := Lib.hid (HT0.out.put hb ho HNE.out); clear hb ho) | fail)
  obtain ⟨b2, -, -⟩ : Blk w1.drew w.heap.size 62 #[.int .i64 q, .int .i64 n, .int .i64 c] ∧ True ∧ True := ⟨HT1.out.mark, trivial, trivial⟩
  have z2 := b2.cell 0
  have P2 := K2.out w1.drew HT1.out.blk
  go_still_tail 4, rfl
  go_wp2_with (first | (go_at_call 21; (with_reducible refine P2.mono ?_); rintro e w2 ⟨rfl, hb, ho⟩; have HT2 := Lib.hid ((show Wt g l1 w.heap.size q n c w w1.drew from ⟨HT1.out.blk, HT1.out.mark, HT1.out.on.drew⟩).put hb ho HNE.out); clear hb ho) | fail)
  clear z2 b2 P2
  obtain ⟨b3, -, -⟩ : Blk w2.drew w.heap.size 62 #[.int .i64 q, .int .i64 n, .int .i64 c] ∧ True ∧ True := ⟨HT2.out.mark, trivial, trivial⟩
  have z3 := b3.cell 1
  have P3 := K3.out w2.drew HT2.out.blk
  go_still_tail 4, rfl
  go_wp2_with (first | (go_at_call 21; (with_reducible refine P3.mono ?_); rintro e w3 ⟨rfl, hb, ho⟩; have HT3 := Lib.hid ((show Wt g l2 w.heap.size q n c w w2.drew from ⟨HT2.out.blk, HT2.out.mark, HT2.out.on.drew⟩).put hb ho HNE.out); clear hb ho) | fail)
  clear z3 b3 P3
  obtain ⟨b4, -, -⟩ : Blk w3.drew w.heap.size 62 #[.int .i64 q, .int .i64 n, .int .i64 c] ∧ True ∧ True := ⟨HT3.out.mark, trivial, trivial⟩
  have z4 := b4.cell 2
  have P4 := K4.out w3.drew HT3.out.blk
  go_still_tail 4, rfl
  go_wp2_with (first | (go_at_call 21; (with_reducible refine P4.mono ?_); rintro e w4 ⟨rfl, hb, ho⟩; have HT4 := Lib.hid ((show Wt g l3 w.heap.size q n c w w3.drew from ⟨HT3.out.blk, HT3.out.mark, HT3.out.on.drew⟩).put hb ho HNE.out); clear hb ho) | fail)
  clear z4 b4 P4
  have kc := KC.out w4 HT4.out.blk
  have hc := HT4.out.blk.cell (off + 10)
  rw [blkB, List.getElem?_toArray, List.getElem?_map, List.getElem?_eq_getElem HL4.out] at hc
  have hf := HT4.out.blk.free (off + 10)
  have HF := Lib.hid (show GivesPut g (l.take off ++ (mkB q n c ++ l.drop (off + 11))) w (.returned (.tuple #[])) (w4.setCell ⟨g, off + 10, none⟩ (.int .u8 (chk (hd10 q n c)))) from ⟨rfl, by
    have := HT4.out.blk.set (off + 10) (.int .u8 (chk (hd10 q n c)))
    rw [blkB_set, HSET.out] at this
    exact this, HT4.out.on.set _ _⟩)
  generalize l4[off + 10]'HL4.out = x at *
  generalize chk (hd10 q n c) = y at *
  go_wp2_with (first | (go_at_call 33; (with_reducible refine kc.mono ?_); rintro e wn ⟨rfl, rfl⟩) | fail)
  go_end0
  exact HF.out
end Go.Proofs.Ytpnnmibdboelpaa
