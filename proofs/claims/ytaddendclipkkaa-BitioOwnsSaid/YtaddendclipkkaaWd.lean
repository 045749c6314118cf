/-
  The code's writer of layer 9: NewWriter, Bytes; a call of a writer.
-/
import Derived.Test.YtaddendclipkkaaWc
set_option maxRecDepth 100000
namespace Go.Proofs.Ytaddendclipkkaa
open Go.RowKit

/-- A row of bytes, and what stands behind them. -/
def RowB (w : World) (g : Nat) (l : List Int) (pad : List Value) : Prop := Blk w g 5 (l.map (Value.int .u8) ++ pad).toArray
theorem RowB.holds {w : World} {g : Nat} {l : List Int} {pad : List Value} (h : RowB w g l pad) : HoldsB w (some ⟨g, 0, none⟩) l := by
  refine .inr ⟨g, 0, rfl, fun k hk => ?_⟩
  rw [Nat.zero_add, Blk.cell h k]
  have e : (l.map (Value.int .u8) ++ pad)[k]? = some (.int .u8 l[k]) := by rw [List.getElem?_append_left (by simpa using hk)]; simp [hk]
  simpa using e
theorem holdsB_list {w : World} {p : Addr} {l : List Int} (h : HoldsB w (some p) l) : ∀ j u, (l.map (Value.int .u8))[j]? = some u → w.cell? (p.add j) = some u := by
  intro j v hj
  rcases h with rfl | ⟨b, off, e, hr⟩
  · simp at hj
  · simp at e; subst e
    rw [List.getElem?_map, Option.map_eq_some_iff] at hj
    obtain ⟨x, hx, rfl⟩ := hj
    obtain ⟨hj', hx'⟩ := List.getElem?_eq_some_iff.1 hx
    have e : (⟨b, off, none⟩ : Addr).add j = ⟨b, off + j, none⟩ := by
      simp only [Addr.add]
      split
      · subst_vars; rfl
      · rfl
    rw [e, hr j hj', hx']
theorem one8 (l : List Int) : ∀ v ∈ l.map (Value.int .u8), v.oneCell' = true := by
  intro v hv
  obtain ⟨x, _, rfl⟩ := List.mem_map.1 hv
  rfl
theorem splice_front (bs : List Int) : splice ((List.replicate (bs.length + 1) (0 : Int)).map (Value.int .u8)) 0 (bs.map (Value.int .u8)) = (bs.map (Value.int .u8) ++ [Value.int .u8 0]) := by
  simp [splice, List.drop_replicate]
theorem new_c (w : World) : Calls Try.prog 18 #[] w fun e w' => ∃ a, e = .returned (.pointer (some ⟨a, 0, none⟩)) ∧ Wr w' w.heap.size a [] ∧ Below w.heap.size w w' := by
  go_enter Try.func18, Try.ntmps18
  go_wp2_with fail
  go_ret
  exact ⟨_, rfl, ⟨.slice none 0 0, Nat.le_refl _, Blk.new w 88 _, World.ownsRow_nil _ _ _ _⟩, (Below.refl _ _).alloc (Nat.le_refl _) _⟩
/-- What Bytes returns. -/
def WBytes (l : List Int) (w : World) (e : Ending) (w' : World) : Prop := ∃ g pad, e = .returned (.slice (some ⟨g, 0, none⟩) (Bi.enc l).length (Bi.enc l).length) ∧ RowB w' g (Bi.enc l) pad ∧ w.heap.size ≤ g ∧ Below w.heap.size w w'
theorem made8 (n : Nat) : madeCells #[.int .u8 0] n = ((List.replicate n (0 : Int)).map (Value.int .u8)).toArray := by
  apply Array.ext
  · simp [madeCells]
  · intro i h1 h2
    simp [madeCells, Nat.mod_one]
set_option maxHeartbeats 1000000 in
theorem bytes_c (w : World) (B a : Nat) (l : List Int) (hW : Wr w B a l) (hc : l.length + 70000 ≤ 1000000000) : Calls Try.prog 22 #[.pointer (some ⟨a, 0, none⟩)] w (WBytes l w) := by
  obtain ⟨sv, h⟩ := hW
  have hsl := Bi.st_len l
  obtain ⟨c0, c1, c2, c3⟩ := h.open
  obtain ⟨_, s, m, rfl, hH, ⟨hm1, hm2⟩, hs0⟩ := HoldsB.of_own h.own
  have halt := h.blk.lt
  have hbl : (Bi.st l).1.length ≤ 999930000 := by omega
  have HW := Lib.hid h
  have HWB : Hid (WBytes l w = WBytes l w) := rfl
  obtain ⟨bs, hbs⟩ : ∃ bs, bs = (Bi.st l).1 := ⟨_, rfl⟩
  have HBS := Lib.hid hbs
  rw [← hbs] at hH hm1 c1 hs0 hbl
  clear hbs h hsl HWB
  have hmk : ∀ W : World, (Instr.makeSlice 22 (.int .i64 ((bs.length : Int) + 1)) (.int .i64 ((bs.length : Int) + 1))).run Try.prog W = .ok (.slice (some ⟨W.heap.size, 0, none⟩) (bs.length + 1) (bs.length + 1)) (W.alloc (.cells (madeCells #[.int .u8 0] (bs.length + 1)) 5)) := fun W => by
    have := run_make_row' (P := Try.prog) 22 5 (.int .u8 0) 1 Try.underlying22 info8 rfl .i64 .i64 (bs.length + 1) (by omega) (by omega) W
    simpa using this
  have hzr : ∀ W : World, (W.alloc (.cells (madeCells #[.int .u8 0] (bs.length + 1)) 5)).heap[W.heap.size]? = some (.cells ((List.replicate (bs.length + 1) (0 : Int)).map (Value.int .u8)).toArray 5 (0, 0)) := fun W => by
    rw [made8]; exact Blk.new W _ _
  have sz8 : (Try.prog.info? 5).map (·.size) = some 1 := by kernel_rfl
  cases hsf : sfB bs with
  | false =>
    have hst := fun W (h : HoldsB W s bs) => stuffed_c bs s m W h (by omega)
    rw [hsf] at hst
    have hE : Hid (Bi.enc l = bs) := by
      show Bi.fin (Bi.st l).1 = _
      rw [← HBS.out]
      unfold Bi.fin
      simp [sfB] at hsf
      simp [hsf]
    go_enter Try.func22, Try.ntmps22
    go_wp2_with (first | (go_at_call 56; refine (made_y _ _ c0).mono ?_; rintro e wn ⟨rfl, rfl⟩) | (with_reducible refine wpList_copy_splice rfl _ _ 22 22 rfl 5 Try.underlying22 sz8 (some ⟨w.heap.size, 0, none⟩) s (bs.length + 1) (bs.length + 1) bs.length m rfl rfl w.heap.size 0 ((List.replicate (bs.length + 1) (0 : Int)).map (Value.int .u8)) 5 (hzr w) (bs.map (Value.int .u8)) (by simp) ?_ ?_ ?_ w.heap.size w ((Below.refl _ _).alloc (Nat.le_refl _) _) (Nat.le_refl _) ?_))
    · intro hpos
      cases hs : s with
      | none => have := (hs0 hs).1; rw [this] at hpos; simp at hpos
      | some ad => rw [hs] at hH; exact ⟨ad, rfl, fun j x hx => holdsB_list (hH.call ((Below.refl _ _).alloc (Nat.le_refl _) _)) j _ (by simp [hx])⟩
    · simp
    · exact one8 bs
    intro w' hrow hb
    have hR : Blk w' w.heap.size 5 (bs.map (Value.int .u8) ++ [Value.int .u8 0]).toArray := by
      have := hrow.out
      rw [← splice_front bs]
      simpa [Blk] using this
    have HR := Lib.hid hR
    have d1 : w'.cell? ⟨a, 1, none⟩ = some (.slice s bs.length m) := (hb.cell (p := ⟨a, 1, none⟩) halt).trans c1
    have hst' := hst w' (hH.call hb)
    clear hrow hR c0 c1 hst
    go_wp2_with (first | (go_at_call 49; refine hst'.mono ?_; rintro e wn ⟨rfl, rfl⟩))
    go_ret
    exact ⟨w.heap.size, [.int .u8 0], by rw [hE.out]; rfl, by rw [hE.out]; exact HR.out, Nat.le_refl _, hb⟩
  | true =>
    have hst := fun W (h : HoldsB W s bs) => stuffed_c bs s m W h (by omega)
    rw [hsf] at hst
    have hE : Hid (Bi.enc l = bs ++ [0]) := by
      show Bi.fin (Bi.st l).1 = _
      rw [← HBS.out]
      unfold Bi.fin
      simp [sfB] at hsf
      simp [hsf]
    go_enter Try.func22, Try.ntmps22
    go_wp2_with (first | (go_at_call 56; refine (made_y _ _ c0).mono ?_; rintro e wn ⟨rfl, rfl⟩) | (with_reducible refine wpList_copy_splice rfl _ _ 22 22 rfl 5 Try.underlying22 sz8 (some ⟨w.heap.size, 0, none⟩) s (bs.length + 1) (bs.length + 1) bs.length m rfl rfl w.heap.size 0 ((List.replicate (bs.length + 1) (0 : Int)).map (Value.int .u8)) 5 (hzr w) (bs.map (Value.int .u8)) (by simp) ?_ ?_ ?_ w.heap.size w ((Below.refl _ _).alloc (Nat.le_refl _) _) (Nat.le_refl _) ?_))
    · intro hpos
      cases hs : s with
      | none => have := (hs0 hs).1; rw [this] at hpos; simp at hpos
      | some ad => rw [hs] at hH; exact ⟨ad, rfl, fun j x hx => holdsB_list (hH.call ((Below.refl _ _).alloc (Nat.le_refl _) _)) j _ (by simp [hx])⟩
    · simp
    · exact one8 bs
    intro w' hrow hb
    have hR : Blk w' w.heap.size 5 (bs.map (Value.int .u8) ++ [Value.int .u8 0]).toArray := by
      have := hrow.out
      rw [← splice_front bs]
      simpa [Blk] using this
    have HR := Lib.hid hR
    have d1 : w'.cell? ⟨a, 1, none⟩ = some (.slice s bs.length m) := (hb.cell (p := ⟨a, 1, none⟩) halt).trans c1
    have hst' := hst w' (hH.call hb)
    clear hrow hR c0 c1 hst
    go_wp2_with (first | (go_at_call 49; refine hst'.mono ?_; rintro e wn ⟨rfl, rfl⟩))
    go_ret
    exact ⟨w.heap.size, [], by rw [hE.out, List.length_append]; rfl, by unfold RowB; rw [hE.out, List.map_append, List.append_nil]; exact HR.out, Nat.le_refl _, hb⟩
/-- A call of a writer: what it appends, its error. -/
def wrM (k v n : Int) : List Int := if k = 0 then bitsM v 1 else if k = 1 then bitsM v n else if k = 2 then gamM v else if k = 3 then unaM v else []
def wrE (k v n : Int) : Int := if k = 0 then bitsC v 1 else if k = 1 then bitsC v n else if k = 2 then gamC v else if k = 3 then unaC v else 0
theorem wrM_bits (k v n : Int) : Bi.bits (wrM k v n) := by
  unfold wrM
  split; exact bitsM_bits _ _
  split; exact bitsM_bits _ _
  split; exact gamM_bits _
  split; exact unaM_bits _
  exact Bi.bits_nil
set_option maxHeartbeats 1000000 in
theorem write_c (w : World) (B a : Nat) (l : List Int) (k v n : Int) (hW : Wr w B a l) (hl : Bi.bits l) (hc : l.length + 70000 ≤ 1000000000) :
    Calls Try.prog 20 #[.pointer (some ⟨a, 0, none⟩), .agg #[.int .i64 k, .int .i64 v, .int .i64 n]] w (WGives B a (l ++ wrM k v n) (wrE k v n) w) := by
  have hA : Below w.heap.size w (w.alloc (.cells #[.int .i64 k, .int .i64 v, .int .i64 n] 38)) := (Below.refl _ _).alloc (Nat.le_refl _) _
  have hW1 := hW.below hA
  have hK := Kp.of_below hA hW.lt
  have h0 := putW _ B a l v hW1 hl (by omega)
  have h1 := bitsW _ B a l v n hW1 hl (by omega)
  have h2 := gamW _ B a l v hW1 hl (by omega)
  have h3 := unaW _ B a l v hW1 hl (by omega)
  unfold wrM wrE
  by_cases e0 : k = 0
  · subst e0
    go_enter Try.func20, Try.ntmps20
    go_wp2_with (first | (go_at_call 50; refine h0.mono ?_; rintro e wn ⟨rfl, hR1, hK1⟩))
    go_ret
    exact ⟨rfl, by simpa using hR1, hK.trans hK1⟩
  by_cases e1 : k = 1
  · subst e1
    go_enter Try.func20, Try.ntmps20
    go_wp2_with (first | (go_at_call 51; refine h1.mono ?_; rintro e wn ⟨rfl, hR1, hK1⟩))
    go_ret
    exact ⟨rfl, by simpa using hR1, hK.trans hK1⟩
  by_cases e2 : k = 2
  · subst e2
    go_enter Try.func20, Try.ntmps20
    go_wp2_with (first | (go_at_call 45; refine h2.mono ?_; rintro e wn ⟨rfl, hR1, hK1⟩))
    go_ret
    exact ⟨rfl, by simpa using hR1, hK.trans hK1⟩
  by_cases e3 : k = 3
  · subst e3
    go_enter Try.func20, Try.ntmps20
    go_wp2_with (first | (go_at_call 44; refine h3.mono ?_; rintro e wn ⟨rfl, hR1, hK1⟩))
    go_ret
    exact ⟨rfl, by simpa using hR1, hK.trans hK1⟩
  · have q0 : (k == 0) = false := by simpa using e0
    have q1 : (k == 1) = false := by simpa using e1
    have q2 : (k == 2) = false := by simpa using e2
    have q3 : (k == 3) = false := by simpa using e3
    rw [if_neg e0, if_neg e1, if_neg e2, if_neg e3, if_neg e0, if_neg e1, if_neg e2, if_neg e3]
    clear e0 e1 e2 e3
    go_enter Try.func20, Try.ntmps20
    go_wp2_with fail
    go_ret
    exact ⟨rfl, by simpa using hW1, hK⟩
end Go.Proofs.Ytaddendclipkkaa
