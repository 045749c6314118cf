/-
  The reference's Terminate of layer 12.
-/
import Derived.Test.YtbaappodeicomaaDoorTv
set_option maxRecDepth 100000
namespace Go.Proofs.YtbaappodeicomaaDoor
open Go.RowKit

theorem holdsI_own {w : World} {base n : Nat} {v : Value} {l : List Int} (h : w.ownsRow base 3 1 v n (l.map (Value.int .i64))) : ∃ s m, v = .slice s l.length m ∧ HoldsI w s l ∧ l.length ≤ m := by
  obtain ⟨_, (⟨rfl, rfl⟩ | ⟨g, m, pad, rfl, _, hr, hm⟩)⟩ := rowP_own h
  · exact ⟨none, 0, rfl, .inl rfl, Nat.zero_le _⟩
  · exact ⟨_, m, rfl, hr.holds, hm⟩
theorem pk_same {l : List Int} {N : Nat} : Pk.pk N (l ++ [0]) = Pk.pk N l := by
  unfold Pk.pk
  apply List.map_congr_left
  intro j _
  rw [Pk.byt_snoc]; split <;> simp
theorem pk_trim1 {l : List Int} {N : Nat} (hl : Pk.bits l) (h : l.length + 1 ≤ 8 * N) : (Am.trim (Pk.pk N (l ++ [1]))).length = l.length / 8 + 1 := by
  have hp : (1 : Int) ≤ 2 ^ (7 - l.length % 8) := by
    have e : (2 : Int) ^ (7 - l.length % 8) = ((2 ^ (7 - l.length % 8) : Nat) : Int) := by simp
    have := Nat.two_pow_pos (7 - l.length % 8)
    rw [e]; omega
  refine Pk.trim_len ?_ fun j hj => ?_
  · rw [Pk.pk_getD (by simp; omega), Pk.byt_snoc, if_pos rfl]
    have := (Pk.byt_bd hl (l.length / 8)).1
    omega
  · rw [Pk.pk_getD (by simp; omega), Pk.byt_over (by simp; omega)]
theorem made8 (n : Nat) : madeCells #[.int .u8 0] n = ((List.replicate n (0 : Int)).map (Value.int .u8)).toArray := by
  apply Array.ext
  · simp [madeCells]
  · intro i h1 h2
    simp [madeCells, Nat.mod_one]
theorem pk_nil (N : Nat) : Pk.pk N [] = List.replicate N 0 := by
  apply List.ext_getElem
  · simp [Pk.pk]
  · intro j h1 h2
    simp [Pk.pk, Pk.byt]
/-- A row of bytes, whole. -/
def RowW (w : World) (g : Nat) (l : List Int) : Prop := Blk w g 5 (l.map (Value.int .u8)).toArray
theorem RowW.holds {w : World} {g : Nat} {l : List Int} (h : RowW w g l) : HoldsB w (some ⟨g, 0, none⟩) l := by
  refine .inr ⟨g, 0, rfl, fun k hk => ?_⟩
  rw [Nat.zero_add, Blk.cell h k]
  simp [hk]
theorem RowW.set {w : World} {g : Nat} {l : List Int} (h : RowW w g l) (k : Nat) (v : Int) : RowW (w.setCell ⟨g, k, none⟩ (.int .u8 v)) g (l.set k v) := by
  have := Blk.set h k (.int .u8 v)
  unfold RowW
  rw [List.map_set]
  simpa using this
structure Vt (w : World) (g N : Nat) (l : List Int) (W : World) : Prop where
  row : RowW W g (Pk.pk N l)
  below : Below w.heap.size w W
/-- What Terminate returns. -/
def VTerm (B a : Nat) (l : List Int) (w : World) (e : Ending) (w' : World) : Prop := ∃ s m, e = .returned (.slice s (Pk.seg l).length m) ∧ HoldsB w' s (Pk.seg l) ∧ Vw w' B a [] ∧ Kp a w w'
theorem vt_next {w W : World} {g N : Nat} {l : List Int} {v : Int} (h : Vt w g N l W) (hg : w.heap.size ≤ g) (hv : v = Pk.byt l (l.length / 8) + 1 * 2 ^ (7 - l.length % 8)) : Vt w g N (l ++ [1]) (W.setCell ⟨g, l.length / 8, none⟩ (.int .u8 v)).drew := by
  refine ⟨?_, (h.below.setCell hg _).drew⟩
  rw [Pk.pk_set, ← hv]
  exact h.row.set _ _
set_option maxHeartbeats 1000000 in
theorem vwterm_c (w : World) (B a : Nat) (l : List Int) (h : Vw w B a l) (hl : Pk.bits l) (hn : l.length ≤ 100000000) : Calls Tryd.prog 48 #[.pointer (some ⟨a, 0, none⟩)] w (VTerm B a l w) := by
  have H := Lib.hid h
  obtain ⟨sv, h⟩ := h
  have c1 : w.cell? ⟨a, 1, none⟩ = some sv := h.core.blk.cell 1
  have f := h.core.blk.free
  have halt := h.core.lt
  obtain ⟨s, m, rfl, hH, hm⟩ := holdsI_own h.own
  have HH := Lib.hid hH
  have HC := Lib.hid h.core
  have HLB := Lib.hid hl
  obtain ⟨N, hN⟩ : ∃ N, N = Pk.nb l.length := ⟨_, rfl⟩
  have hN8 : l.length ≤ 8 * N ∧ 8 * N ≤ l.length + 7 := by rw [hN]; unfold Pk.nb; omega
  have hmk : ∀ W : World, (Instr.makeSlice 34 (.int .i64 (N : Int)) (.int .i64 (N : Int))).run Tryd.prog W = .ok (.slice (some ⟨W.heap.size, 0, none⟩) N N) (W.alloc (.cells (madeCells #[.int .u8 0] N) 5)) := fun W => by
    have := run_make_row' (P := Tryd.prog) 34 5 (.int .u8 0) 1 Tryd.underlying34 info8 rfl .i64 .i64 N (by omega) (by omega) W
    simpa using this
  have hNe : ((l.length : Int) + 7) / 8 = (N : Int) := by rw [hN]; unfold Pk.nb; omega
  have HN := Lib.hid hN
  have h0 : Hid (Vt w w.heap.size N [] (w.alloc (.cells (madeCells #[.int .u8 0] N) 5))) := by
    refine ⟨?_, (Below.refl _ _).alloc (Nat.le_refl _) _⟩
    rw [pk_nil, made8]; exact Blk.new w _ _
  clear h hH hl hN
  go_enter Tryd.func48, Tryd.ntmps48
  go_wp2_with fail
  clear hNe hmk
  go_loopw [4, 5] (fun en i wr => ∃ k : Nat, k ≤ l.length ∧ i = .int .i64 (k : Int) ∧ en = .int .i64 ((Am.trim (Pk.pk N (l.take k))).length : Int) ∧ Hid (Vt w w.heap.size N (l.take k) wr)) (fun _ i _ => l.length - (intOf i).toNat)
  case atStart => exact ⟨0, Nat.zero_le _, rfl, by rw [List.take_zero, pk_nil, Pk.trim_none (fun j => by rw [List.getD_eq_getElem?_getD, List.getElem?_replicate]; split <;> rfl)]; rfl, h0⟩
  case round =>
    obtain ⟨k, hk, rfl, rfl, hV⟩ := hrel
    have d1 : wr.cell? ⟨a, 1, none⟩ = some (.slice s l.length m) := (hV.out.below.cell (p := ⟨a, 1, none⟩) halt).trans c1
    by_cases hlt : k < l.length
    · obtain ⟨bo, off, rfl, hcell⟩ : ∃ b off, s = some ⟨b, off, none⟩ ∧ wr.cell? ⟨b, off + k, none⟩ = some (.int .i64 l[k]) := by
        rcases HH.out.call hV.out.below with rfl | ⟨b, off, rfl, hr⟩
        · simp at hlt
        · exact ⟨b, off, rfl, hr k hlt⟩
      have hsn : l.take (k + 1) = l.take k ++ [l[k]] := by rw [List.take_succ_eq_append_getElem hlt]
      have hbit := HLB.out _ (List.getElem_mem hlt)
      have hlk : (l.take k).length = k := by simp; omega
      rcases hbit with hb | hb
      · rw [hb] at hcell hsn
        have HS : Hid (Pk.pk N (l.take (k + 1)) = Pk.pk N (l.take k)) := by show _ = _; rw [hsn, pk_same]
        have hV2 : Hid (Vt w w.heap.size N (l.take (k + 1)) wr) := by
          have := hV.out
          exact ⟨by rw [HS.out]; exact this.row, this.below⟩
        clear hsn hb c1 hlk
        go_wp2_with fail
        go_roundw
        case rel => exact ⟨k + 1, by omega, by go_num, by rw [HS.out], hV2⟩
        case measure => simp [intOf]; omega
      · rw [hb] at hcell hsn
        have hTL : Hid ((Am.trim (Pk.pk N (l.take (k + 1)))).length = k / 8 + 1) := by
          show _ = _
          rw [hsn, pk_trim1 (Pk.bits_take HLB.out k) (by rw [hlk]; omega), hlk]
        have HSN := Lib.hid hsn
        have HLK := Lib.hid hlk
        have g1 : wr.cell? ⟨w.heap.size, k / 8, none⟩ = some (.int .u8 (Pk.byt (l.take k) (k / 8))) := by
          rw [Blk.cell hV.out.row]
          simp [Pk.pk, show k / 8 < N by omega]
        have fg1 : ∀ j, wr.frozen? ⟨w.heap.size, j, none⟩ = false := Blk.free hV.out.row
        have hx := Pk.byt_bd (Pk.bits_take HLB.out k) (k / 8)
        obtain ⟨x, hxx⟩ : ∃ x, x = Pk.byt (l.take k) (k / 8) := ⟨_, rfl⟩
        rw [← hxx] at g1 hx
        have HX := Lib.hid hxx
        obtain ⟨q, hq⟩ : ∃ q, q = k / 8 := ⟨_, rfl⟩
        obtain ⟨r, hr⟩ : ∃ r, r = 7 - k % 8 := ⟨_, rfl⟩
        have e1 : IntKind.i64.wrap ((k : Int) / 8) = (q : Int) := by rw [IntWalk.i64_in _ (by omega)]; omega
        have e2 : IntKind.i64.wrap (7 - Int.tmod (k : Int) 8) = (r : Int) := by
          rw [Int.tmod_eq_emod_of_nonneg (by omega), IntWalk.i64_in _ (by omega)]; omega
        have e3 : (0 : Int) ≤ (q : Int) := by omega
        have e4 : (q : Int) < (N : Int) := by omega
        have e5 : (0 : Int) ≤ (r : Int) := by omega
        rw [← hq] at g1
        have HQ : Hid (q = k / 8 ∧ r = 7 - k % 8) := ⟨hq, hr⟩
        clear hsn hb c1 hlk hxx hq hr
        obtain ⟨G, hGe⟩ : ∃ G, G = w.heap.size := ⟨_, rfl⟩
        have hG : w.heap.size ≤ G := by omega
        rw [← hGe] at hV g1 fg1 ⊢
        have HGE := Lib.hid hGe
        clear hGe
        go_upto_region 9 with fail
        go_region_law (fail)
        all_goals
          go_wp2_with fail
          go_roundw
          case rel =>
            refine ⟨k + 1, by omega, by go_num, ?_, ?_⟩
            · rw [hTL.out, ← HQ.out.1]; go_num
            · have hlk := HLK.out
              have hq : q = (l.take k).length / 8 := by rw [hlk]; exact HQ.out.1
              have hr : r = 7 - (l.take k).length % 8 := by rw [hlk]; exact HQ.out.2
              have hb8 := Pk.byt_bd (Pk.bits_take HLB.out (k + 1)) (k / 8)
              rw [HSN.out, Pk.byt_snoc, if_pos (by rw [hlk]), ← hr, ← HX.out] at hb8
              have hm : min r 8 = r := by have := HQ.out.2; omega
              show Vt w G N (l.take (k + 1)) _
              rw [HSN.out, hq]
              refine vt_next (l := l.take k) hV.out hG ?_
              rw [← hq, ← hr, hm, HQ.out.1, ← HX.out]
              omega
          case measure => simp [intOf]; omega
    · obtain rfl : k = l.length := by omega
      have hE : Hid (Pk.seg l = Am.trim (Pk.pk N l)) := by show _ = _; rw [HN.out]; rfl
      have hV2 : Hid (Vt w w.heap.size N l wr) := by
        have := hV.out
        rw [List.take_length] at this
        exact this
      have hT : Hid ((Am.trim (Pk.pk N (l.take l.length))).length = (Am.trim (Pk.pk N l)).length) := by show _ = _; rw [List.take_length]
      obtain ⟨M, hM⟩ : ∃ M, M = (Am.trim (Pk.pk N (l.take l.length))).length := ⟨_, rfl⟩
      have hMN : M ≤ N := by rw [hM, hT.out]; have := (Am.trim_pre (Pk.pk N l)).1; rwa [Pk.pk_len] at this
      rw [← hM]
      have HM : Hid (M = (Am.trim (Pk.pk N l)).length) := by show _ = _; rw [hM, hT.out]
      have hfr : ∀ i, wr.frozen? ⟨a, i, none⟩ = false := fun i => (hV2.out.below.frozen (p := ⟨a, i, none⟩) halt).trans (f i)
      clear hM hT hV hk hlt f c1
      go_wp2_with fail
      go_ret
      have C1 : Core wr B a 112 #[.bool true, .slice s l.length m] := HC.out.keep fun k hk => hV2.out.below.block k (HC.out.fl k hk)
      have N1 := C1.num 1 (.slice none 0 0) rfl
      have hb := hV2.out.below
      have hH2 : HoldsB (wr.setCell ⟨a, 1, none⟩ (.slice none 0 0)) (some ⟨w.heap.size, 0, none⟩) (Pk.pk N l) := RowW.holds (hV2.out.row.far (p := ⟨a, 1, none⟩) (by simp; omega) _)
      refine ⟨_, N, by rw [hE.out, ← HM.out]; rfl, ?_, ⟨.slice none 0 0, by simpa using N1.1, World.ownsRow_nil _ _ _ _⟩, (Kp.of_below hb halt).trans N1.2⟩
      rw [hE.out, (Am.trim_pre _).2.1]
      exact hH2.take _
end Go.Proofs.YtbaappodeicomaaDoor
