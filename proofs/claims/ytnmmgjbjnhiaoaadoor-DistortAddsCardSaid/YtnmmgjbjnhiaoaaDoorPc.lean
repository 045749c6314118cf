/-
  Layer 14: Scan of the code and of the reference; lists of points compared.
-/
import Derived.Test.YtnmmgjbjnhiaoaaDoorPb
import Derived.Laws.MakeOwn
set_option maxRecDepth 100000
namespace Go.Proofs.YtnmmgjbjnhiaoaaDoor
open Go.RowKit

theorem own2_below {w w1 : World} {base n z : Nat} {e : TypeId} {v : Value} {xs : List Value} (h : w.ownsRow base e z v n xs) (hb : Below w.heap.size w w1) : w1.ownsRow base e z v n xs := by
  obtain ⟨h1, h2⟩ := h
  refine ⟨h1, ?_⟩
  rcases h2 with h | ⟨g, cap, cur, rfl, h3, h4, h5⟩
  · exact .inl h
  · exact .inr ⟨g, cap, cur, rfl, h3, (hb.block g (Array.getElem?_eq_some_iff.1 h4).1).trans h4, h5⟩
theorem own2_slice {w : World} {base n z : Nat} {e : TypeId} {v : Value} {xs : List Value} (h : w.ownsRow base e z v n xs) : ∃ s m, v = .slice s n m := by
  obtain ⟨_, h2⟩ := h
  rcases h2 with ⟨rfl, rfl⟩ | ⟨g, cap, cur, rfl, _⟩
  · exact ⟨none, 0, rfl⟩
  · exact ⟨_, cap, rfl⟩
theorem own2_foot {w : World} {base n z : Nat} {e : TypeId} {v : Value} {xs : List Value} (h : w.ownsRow base e z v n xs) {k : Nat} (hk : v.ownBlock = some k) : base ≤ k := (h.lt k hk).1
theorem pt_new (W : World) (x y : Value) (T : TypeId) : ∀ j u, ([x, y] : List Value)[j]? = some u → (W.alloc (.cells #[x, y] T)).cell? ((⟨W.heap.size, 0, none⟩ : Addr).add j) = some u := by
  intro j u hj
  match j, hj with
  | 0, hj => simp at hj; subst hj; simp [Addr.add]
  | 1, hj => simp at hj; subst hj; simp [Addr.add]
def cellsP (l : List (Int × Int)) : List Value := l.flatMap fun p => [.int .i64 p.1, .int .i64 p.2]
theorem cellsP_len (l : List (Int × Int)) : (cellsP l).length = l.length * 2 := by induction l with
  | nil => rfl
  | cons p l ih => show (cellsP l).length + 1 + 1 = (l.length + 1) * 2; omega
theorem cellsP_app (l m : List (Int × Int)) : cellsP (l ++ m) = cellsP l ++ cellsP m := by simp [cellsP]
theorem cellsP_at (l : List (Int × Int)) (k : Nat) (hk : k < l.length) : (cellsP l)[k * 2]? = some (.int .i64 l[k].1) ∧ (cellsP l)[k * 2 + 1]? = some (.int .i64 l[k].2) := by
  induction l generalizing k with
  | nil => simp at hk
  | cons p l ih =>
    cases k with
    | zero => exact ⟨rfl, rfl⟩
    | succ k =>
      have := ih k (by simpa using hk)
      have e : cellsP (p :: l) = .int .i64 p.1 :: .int .i64 p.2 :: cellsP l := rfl
      rw [e, show (k + 1) * 2 = k * 2 + 1 + 1 by omega]
      exact this
/-- A slice's address holds the points of a list. -/
def HoldsP (w : World) (s : Option Addr) (l : List (Int × Int)) : Prop := l = [] ∨ ∃ b, s = some ⟨b, 0, none⟩ ∧ (∃ cs, Blk w b 122 cs) ∧ ∀ k (h : k < l.length), w.cell? ⟨b, k * 2, none⟩ = some (.int .i64 l[k].1) ∧ w.cell? ⟨b, k * 2 + 1, none⟩ = some (.int .i64 l[k].2)
theorem HoldsP.call {w w1 : World} {s : Option Addr} {l : List (Int × Int)} (h : HoldsP w s l) (hb : Below w.heap.size w w1) : HoldsP w1 s l := by
  rcases h with h | ⟨b, rfl, ⟨cs, ht⟩, hr⟩
  · exact .inl h
  · exact .inr ⟨b, rfl, ⟨cs, ht.below hb⟩, fun k hk => ⟨(hb.cell (p := ⟨b, _, none⟩) (cell_lt (hr k hk).1)).trans (hr k hk).1, (hb.cell (p := ⟨b, _, none⟩) (cell_lt (hr k hk).2)).trans (hr k hk).2⟩⟩
theorem HoldsP.at {w : World} {s : Option Addr} {l : List (Int × Int)} (h : HoldsP w s l) {k : Nat} (hk : k < l.length) : ∃ b, s = some ⟨b, 0, none⟩ ∧ w.cell? ⟨b, k * 2, none⟩ = some (.int .i64 l[k].1) ∧ w.cell? ⟨b, k * 2 + 1, none⟩ = some (.int .i64 l[k].2) := by
  rcases h with rfl | ⟨b, rfl, _, hr⟩
  · simp at hk
  · exact ⟨b, rfl, hr k hk⟩
/-- Blocks of points are kept. -/
def Kt (W W' : World) : Prop := ∀ (k : Nat) (cs : Array Value), Blk W k 122 cs → Blk W' k 122 cs
theorem Kt.refl (W : World) : Kt W W := fun _ _ h => h
theorem Kt.trans {W W1 W2 : World} (h : Kt W W1) (h' : Kt W1 W2) : Kt W W2 := fun k cs hb => h' k cs (h k cs hb)
theorem kt_below {W W1 : World} (hb : Below W.heap.size W W1) : Kt W W1 := fun _ _ h => h.below hb
theorem HoldsP.kt {w w1 : World} {s : Option Addr} {l : List (Int × Int)} (h : HoldsP w s l) (hb : Kt w w1) : HoldsP w1 s l := by
  rcases h with h | ⟨b, rfl, ⟨cs, ht⟩, hr⟩
  · exact .inl h
  · have h1 := hb b cs ht
    exact .inr ⟨b, rfl, ⟨cs, h1⟩, fun k hk => ⟨by rw [h1.cell, ← ht.cell]; exact (hr k hk).1, by rw [h1.cell, ← ht.cell]; exact (hr k hk).2⟩⟩
theorem own2_holds {w : World} {base n m : Nat} {s : Option Addr} {l : List (Int × Int)} (h : w.ownsRow base 122 2 (.slice s n m) n (cellsP l)) : n = l.length ∧ HoldsP w s l := by
  have hn : n = l.length := by have := h.1; rw [cellsP_len] at this; omega
  refine ⟨hn, ?_⟩
  rcases h.2 with ⟨_, h0⟩ | ⟨g, cap, cur, he, hb, hg, hc, hm, hs, ht⟩
  · exact .inl (List.length_eq_zero_iff.1 (by omega))
  · simp at he
    obtain ⟨rfl, rfl⟩ := he
    refine .inr ⟨g, rfl, ⟨cur, hg⟩, fun k hk => ?_⟩
    obtain ⟨h1, h2⟩ := cellsP_at l k hk
    rw [← ht, List.getElem?_take_of_lt (by omega), Array.getElem?_toList] at h1 h2
    exact ⟨by simp [World.cell?, hg, h1], by simp [World.cell?, hg, h2]⟩
def colP (x top n : Nat) : List (Int × Int) := (List.range n).map fun i => ((x : Int), ((top + i : Nat) : Int))
def strP (top n k : Nat) : List (Int × Int) := (List.range k).flatMap fun x => colP x top n
def scnP (w h q : Nat) : List (Int × Int) := (List.range q).flatMap fun s => strP (4 * s) (min 4 (h - 4 * s)) w
def scan (w h : Nat) : List (Int × Int) := scnP w h ((h + 3) / 4)
theorem colP_len (x top n : Nat) : (colP x top n).length = n := by simp [colP]
theorem colP_succ (x top n : Nat) : colP x top (n + 1) = colP x top n ++ [((x : Int), ((top + n : Nat) : Int))] := by simp [colP, List.range_succ]
theorem strP_succ (top n k : Nat) : strP top n (k + 1) = strP top n k ++ colP k top n := by simp [strP, List.range_succ]
theorem scnP_succ (w h q : Nat) : scnP w h (q + 1) = scnP w h q ++ strP (4 * q) (min 4 (h - 4 * q)) w := by simp [scnP, List.range_succ]
theorem strP_len (top n k : Nat) : (strP top n k).length = k * n := by
  induction k with
  | zero => simp [strP]
  | succ k ih => rw [strP_succ, List.length_append, ih, colP_len, Nat.succ_mul]
theorem scnP_len (w h q : Nat) (hw : w ≤ 64) : (scnP w h q).length ≤ q * 256 := by
  induction q with
  | zero => simp [scnP]
  | succ q ih =>
    rw [scnP_succ, List.length_append, strP_len]
    have : w * min 4 (h - 4 * q) ≤ 64 * 4 := Nat.mul_le_mul hw (Nat.min_le_left _ _)
    omega
theorem infoP : (Tryd.prog.info? 122).map (fun i => (i.zero, i.size, i.bytes)) = some (some (.agg #[.int .i64 0, .int .i64 0]), 2, 16) := by kernel_rfl
theorem info2_parts {t : TypeId} {z : Value} {s b : Nat} (h : (Tryd.prog.info? t).map (fun i => (i.zero, i.size, i.bytes)) = some (some z, s, b)) : ∃ i, Tryd.prog.info? t = some i ∧ i.zero = some z ∧ i.size = s ∧ i.bytes = b := by
  cases hi : Tryd.prog.info? t with
  | none => rw [hi] at h; simp at h
  | some i => rw [hi] at h; simp at h; exact ⟨i, rfl, h.1, h.2.1, h.2.2⟩
structure PtAt (w : World) (l : List (Int × Int)) (sv : Value) (W : World) : Prop where
  own : W.ownsRow w.heap.size 122 2 sv l.length (cellsP l)
  below : Below w.heap.size w W
theorem PtAt.step {w W W1 : World} {l : List (Int × Int)} {sv : Value} (h : PtAt w l sv W) (hb : Below W.heap.size W W1) : PtAt w l sv W1 := ⟨own2_below h.own hb, below_call h.below hb⟩
theorem PtAt.grow {w W w2 : World} {l : List (Int × Int)} {sv v' : Value} {X : Obj} {x y : Int} (h : PtAt w l sv W) (hown : w2.ownsRow w.heap.size 122 2 v' (l.length + 1) (cellsP l ++ [.int .i64 x, .int .i64 y])) (hg : (W.alloc X).grownBy w2 sv.ownBlock) : PtAt w (l ++ [(x, y)]) v' w2 := by
  refine ⟨?_, (h.below.alloc h.below.size X).grown hg (by have := h.below.size; simp; omega) fun k hk => own2_foot h.own hk⟩
  rw [List.length_append, cellsP_app]
  exact hown
def GivesP (l : List (Int × Int)) (w : World) (e : Ending) (w' : World) : Prop := ∃ s m, e = .returned (.slice s l.length m) ∧ HoldsP w' s l ∧ Below w.heap.size w w'
theorem scan_no (w h : Int) (hf : ¬ fits w h) (W : World) : Calls Tryd.prog 82 #[.int .i64 w, .int .i64 h] W fun e w' => e = .returned (.slice none 0 0) ∧ W = w' := by
  have k := sized_n w h hf
  clear hf
  go_enter Tryd.func82, Tryd.ntmps82
  go_wp2_with (first | (go_at_call 65; (with_reducible refine (k _).mono ?_); rintro e wn ⟨rfl, rfl⟩))
  go_ret
  exact ⟨rfl, rfl⟩
theorem mk_pts (c : Nat) (hc : c ≤ 4096) (W : World) : (Instr.makeSlice 119 (.int .i64 0) (.int .i64 (c : Int))).run Tryd.prog W = .ok (.slice (some ⟨W.heap.size, 0, none⟩) 0 c) (W.alloc (.cells (madeCells #[.int .i64 0, .int .i64 0] (c * 2)) 122)) := by
  obtain ⟨i0, hi, hz0, hz1, hz2⟩ := info2_parts infoP
  have hr := run_make (P := Tryd.prog) W 119 122 i0 _ Tryd.underlying119 hi hz0 .i64 .i64 0 c (Int.le_refl _) (by omega) (by rw [hz2]; omega) (by omega)
  rw [hz1, Int.toNat_natCast] at hr
  exact hr
theorem wrap_mul (a b : Nat) (h : a * b ≤ 8192) : IntKind.i64.wrap ((a : Int) * (b : Int)) = ((a * b : Nat) : Int) := by
  rw [← Int.natCast_mul, IntWalk.i64_left]
  generalize a * b = c at *
  unfold wrap64; omega
theorem made_size (cs : Array Value) (n : Nat) : (madeCells cs n).size = n := by simp [madeCells]
set_option maxHeartbeats 8000000 in
theorem scan_yes (w0 h0 : Nat) (hf : fits (w0 : Int) (h0 : Int)) (w : World) : Calls Tryd.prog 82 #[.int .i64 (w0 : Int), .int .i64 (h0 : Int)] w (GivesP (scan w0 h0) w) := by
  obtain ⟨i0, hi, hz0, hz1, hz2⟩ := info2_parts infoP
  have hmn := hmn
  have k0 := sized_y _ _ hf
  have hw : w0 ≤ 64 := by unfold fits at hf; omega
  have hh : h0 ≤ 64 := by unfold fits at hf; omega
  have hcap : w0 * h0 ≤ 4096 := Nat.mul_le_mul hw hh
  have wm := wrap_mul w0 h0 (by omega)
  have hmk := mk_pts (w0 * h0) hcap
  have hI : Hid (PtAt w [] (.slice (some ⟨w.heap.size, 0, none⟩) 0 (w0 * h0)) (w.alloc (.cells (madeCells #[.int .i64 0, .int .i64 0] (w0 * h0 * 2)) 122))) := ⟨World.ownsRow_made w _ (w0 * h0) (Nat.le_refl _) (by unfold maxLen; omega) (made_size _ _), below_alloc (Below.refl _ w) _⟩
  have HCAP := Lib.hid hcap
  generalize w0 * h0 = cap at *
  clear hcap
  have HW := Lib.hid hw
  have HH := Lib.hid hh
  clear hf hw hh
  go_enter Tryd.func82, Tryd.ntmps82
  go_wp2_with (first | (go_at_call 65; (with_reducible refine (k0 _).mono ?_); rintro e wn ⟨rfl, rfl⟩))
  clear k0 hmk wm
  go_loopw [5, 6] (fun z i wr => ∃ (q : Nat) (x : Int) (sv : Value), q ≤ 16 ∧ Hid (x = 4 * (q : Int) ∧ 4 * q < h0 + 4) ∧ i = .int .i64 x ∧ z = sv ∧ Hid (PtAt w (scnP w0 h0 q) sv wr)) (fun _ i _ => h0 + 4 - (intOf i).toNat)
  case atStart => exact ⟨0, 0, _, by omega, ⟨by omega, by omega⟩, rfl, rfl, hI⟩
  case round =>
    obtain ⟨q, x, sv, hq, hx, rfl, hz, hT⟩ := hrel
    obtain ⟨s5, m5, rfl⟩ := own2_slice hT.out.own
    subst hz
    have hh := HH.out
    have hw := HW.out
    have hx1 := hx.out.1
    have HX := Lib.hid hx1
    have hx64 : 0 ≤ x ∧ x ≤ 64 := by omega
    obtain ⟨hx0, hx6⟩ := hx64
    clear hx1
    by_cases hlt : x < (h0 : Int)
    · obtain ⟨l0, hl0⟩ : ∃ l0, l0 = scnP w0 h0 q := ⟨_, rfl⟩
      have hlen0 : l0.length ≤ q * 256 := by rw [hl0]; exact scnP_len w0 h0 q hw
      rw [← hl0] at hT ⊢
      have HL0 := Lib.hid hl0
      have HLN0 := Lib.hid hlen0
      have hT0 := Lib.hid hT.out
      obtain ⟨n, hn⟩ : ∃ n, n = min 4 (h0 - 4 * q) := ⟨_, rfl⟩
      have hmin : Hid (min (x + 4) (h0 : Int) = x + (n : Int)) := by show _ = _; have := HX.out; omega
      have hn4 : n ≤ 4 := by omega
      have HN := Lib.hid hn
      have HN4 := Lib.hid hn4
      clear hl0 hlen0 hn hT hn4
      go_wp2_with fail
      obtain ⟨W0, rfl⟩ : ∃ W0, W0 = wr := ⟨_, rfl⟩
      go_loopw [5, 23] (fun z i wr => ∃ (k : Nat) (sv : Value), k ≤ w0 ∧ i = .int .i64 (k : Int) ∧ z = sv ∧ Hid (PtAt w (l0 ++ strP (4 * q) n k) sv wr)) (fun _ i _ => w0 - (intOf i).toNat)
      case atStart => exact ⟨0, _, Nat.zero_le _, rfl, rfl, by simpa [strP] using hT0⟩
      case round =>
        obtain ⟨k, sv, hk, rfl, hz, hT⟩ := hrel
        obtain ⟨s6, m6, rfl⟩ := own2_slice hT.out.own
        subst hz
        by_cases hlk : k < w0
        · obtain ⟨l1, hl1⟩ : ∃ l1, l1 = l0 ++ strP (4 * q) n k := ⟨_, rfl⟩
          have hlen1 : l1.length ≤ q * 256 + 256 := by
            rw [hl1, List.length_append, strP_len]
            have := HLN0.out
            have : k * n ≤ 64 * 4 := Nat.mul_le_mul (by omega) HN4.out
            omega
          rw [← hl1] at hT ⊢
          have HL1 := Lib.hid hl1
          have HLN1 := Lib.hid hlen1
          have hT1 := Lib.hid hT.out
          clear hl1 hlen1 hT
          go_wp2_with fail
          obtain ⟨W1, rfl⟩ : ∃ W1, W1 = wr := ⟨_, rfl⟩
          go_loopw [5, 8] (fun z i wr => ∃ (j : Nat) (y : Int) (sv : Value), Hid (j ≤ n ∧ y = x + (j : Int)) ∧ i = .int .i64 y ∧ z = sv ∧ Hid (PtAt w (l1 ++ colP k (4 * q) j) sv wr)) (fun _ i _ => (x + (n : Int) - intOf i).toNat)
          case atStart => exact ⟨0, x, _, ⟨by omega, by omega⟩, rfl, rfl, by simpa [colP] using hT1⟩
          case round =>
            obtain ⟨j, y, sv, hj, rfl, hz, hT⟩ := hrel
            obtain ⟨s7, m7, rfl⟩ := own2_slice hT.out.own
            subst hz
            have hme := hmin.out
            have HME := Lib.hid hme
            have w4 : IntKind.i64.wrap (x + 4) = x + 4 := by rw [IntWalk.i64_left]; unfold wrap64; omega
            by_cases hly : y < x + (n : Int)
            · obtain ⟨l, hl⟩ : ∃ l, l = l1 ++ colP k (4 * q) j := ⟨_, rfl⟩
              have hlen : l.length ≤ 8192 := by
                rw [hl, List.length_append, colP_len]
                have := HLN1.out
                have := HN4.out
                have := hj.out
                omega
              rw [← hl] at hT ⊢
              have HL := Lib.hid hl
              have HT := Lib.hid hT.out
              have hws := HT.out.below.size
              have hy : 0 ≤ y ∧ y ≤ 200 := by have := hj.out; have := HN4.out; omega
              obtain ⟨hy0, hy1⟩ := hy
              have hly2 : y < min (x + 4) (h0 : Int) := by rw [hme]; exact hly
              clear hl hT hme
              go_wp2_with (first | (at_builtin; refine wpList_append_own_at _ rfl _ _ 119 rfl w.heap.size 122 i0 (.agg #[.int .i64 0, .int .i64 0]) 2 16 Tryd.underlying119 hi hz0 hz1 hz2 rfl (by decide) _ l.length _ rfl (own2_below HT.out.own ((Below.refl _ _).alloc (Nat.le_refl _) _)) ⟨wr.heap.size, 0, none⟩ 1 1 [.int .i64 (k : Int), .int .i64 y] rfl rfl (pt_new _ _ _ _) (by intro u hu; simp at hu; rcases hu with rfl | rfl <;> rfl) (by unfold maxLen; omega) (by omega) (by simp; omega) ?_))
              intro v' w2 hown hgrow _ _
              have T2 := HT.out.grow hown hgrow
              have T3 := Lib.hid T2
              clear hown hgrow T2 hws
              go_wp2_with fail
              go_roundw
              case rel =>
                obtain ⟨hj1, hj2⟩ := hj.out
                refine ⟨j + 1, _, v', ⟨by omega, rfl⟩, by go_num, rfl, ?_⟩
                have := T3.out
                rw [HL.out] at this
                have e : y = ((4 * q + j : Nat) : Int) := by have := HX.out; omega
                rw [colP_succ, ← List.append_assoc, ← e]
                exact this
              case measure =>
                obtain ⟨hj1, hj2⟩ := hj.out
                simp [intOf]; omega
            · have hjn : j = n := by have := hj.out; omega
              have hly2 : ¬ y < min (x + 4) (h0 : Int) := by rw [hme]; exact hly
              subst hjn
              have HT := Lib.hid hT.out
              clear hT hme
              go_wp2_with fail
              go_roundw
              case rel =>
                refine ⟨k + 1, _, by omega, by go_num, rfl, ?_⟩
                have := HT.out
                rw [HL1.out, List.append_assoc, ← strP_succ] at this
                rw [HL1.out, List.append_assoc, ← strP_succ]
                exact this
              case measure => simp [intOf]; omega
        · obtain rfl : k = w0 := by omega
          have HT := Lib.hid hT.out
          have w5 : IntKind.i64.wrap (x + 4) = x + 4 := by rw [IntWalk.i64_left]; unfold wrap64; omega
          go_wp2_with fail
          go_roundw
          case rel =>
            have hx' := HX.out
            refine ⟨q + 1, _, _, by omega, ⟨by omega, by omega⟩, rfl, rfl, ?_⟩
            have := HT.out
            rw [HL0.out, HN.out, ← scnP_succ] at this
            rw [HL0.out, HN.out, ← scnP_succ]
            exact this
          case measure => simp [intOf]; omega
    · have hqq : q = (h0 + 3) / 4 := by have := HX.out; have := hx.out.2; omega
      have HT := Lib.hid hT.out
      have HQ := Lib.hid hqq
      clear hT hqq
      go_wp2_with fail
      go_ret
      have h1 := HT.out
      rw [HQ.out] at h1
      obtain ⟨_, h⟩ := own2_holds h1.own
      refine ⟨s5, m5, ?_, h, h1.below⟩
      rw [HQ.out]
      rfl
end Go.Proofs.YtnmmgjbjnhiaoaaDoor
