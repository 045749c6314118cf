/-
  For all sizes, numbers of passes and modes the statement CblkOrders returns true; they read afterwards as before.
  Conditions: none beyond those of the given statement.
-/
import Derived.Test.YtdpfojenljejiaaOa
import Derived.Test.YtdpfojenljejiaaPn
import Derived.Test.YtdpfojenljejiaaEa
import Derived.Test.YtdpfojenljejiaaFa
set_option maxRecDepth 100000
namespace Go.Proofs.Ytdpfojenljejiaa.cblkOrders
open Go.ChangeShapes Go.WideShapes Go.ChangeAt Go.RowKit Go.Joins Go.Deep

/-- A block of flags. -/
def Sn (W : World) (g N : Nat) (f : Nat → Bool) : Prop := ∃ cs, Blk W g 4 cs ∧ ∀ i, i < N → cs[i]? = some (.bool (f i))
section
variable {W W' : World} {g N : Nat} {f : Nat → Bool}
theorem Sn.keep (H : Sn W g N f) (hk : W'.heap[g]? = W.heap[g]?) : Sn W' g N f := by
  obtain ⟨cs, h1, h2⟩ := H
  exact ⟨cs, hk.trans h1, h2⟩
theorem Sn.lt (H : Sn W g N f) : g < W.heap.size := H.elim fun _ H => H.1.lt
theorem Sn.at (H : Sn W g N f) {i : Nat} (hi : i < N) : W.cell? ⟨g, i, none⟩ = some (.bool (f i)) := by
  obtain ⟨cs, h1, h2⟩ := H
  rw [h1.cell]; exact h2 i hi
theorem Sn.free (H : Sn W g N f) (i : Nat) : W.frozen? ⟨g, i, none⟩ = false := H.elim fun _ H => H.1.free i
theorem Sn.put (H : Sn W g N f) {i : Nat} (hi : i < N) {f' : Nat → Bool} (hf : ∀ j, f' j = if i = j then true else f j) : Sn (W.setCell ⟨g, i, none⟩ (.bool true)) g N f' := by
  obtain ⟨cs, h1, h2⟩ := H
  have hsz := (Array.getElem?_eq_some_iff.1 (h2 i hi)).1
  refine ⟨_, h1.set _ _, fun j hj => ?_⟩
  rw [Array.getElem?_setIfInBounds, hf j]
  by_cases hc : i = j
  · subst hc
    rw [if_pos rfl, if_pos hsz, if_pos rfl]
  · rw [if_neg hc, if_neg hc]; exact h2 j hj
theorem sn_made {n : Nat} (hb : W.heap[g]? = some (zB n)) : Sn W g n (fun _ => false) :=
  ⟨_, hb, fun i hi => by rw [made_at n i hi]⟩
end
theorem md {w : World} {g : Nat} {a b c d y : Bool} (h : Blk w g 47 #[.bool a, .bool b, .bool c, .bool d, .bool y]) : w.cell? ⟨g, 0, none⟩ = some (.bool a) ∧ w.cell? ⟨g, 1, none⟩ = some (.bool b) ∧ w.cell? ⟨g, 2, none⟩ = some (.bool c) ∧ w.cell? ⟨g, 3, none⟩ = some (.bool d) ∧ w.cell? ⟨g, 4, none⟩ = some (.bool y) := ⟨h.cell 0, h.cell 1, h.cell 2, h.cell 3, h.cell 4⟩
theorem segs_in (p : Nat) (m : Mo) (h1 : 1 ≤ p) (h2 : p ≤ 178) (W : World) : Calls Try.prog 29 #[.int .i64 (p : Int), m.val] W (GivesI (segC m.b m.r p) W) := by
  obtain ⟨b, r, s, c, y⟩ := m
  cases r
  · exact segs_f p b s c y h1 h2 W
  · exact segs_t p b s c y h1 h2 W
/-- The mode's box stands as it stood. -/
def MdAt (g : Nat) (m : Mo) (w : World) : Prop := Blk w g 47 #[.bool m.b, .bool m.r, .bool m.s, .bool m.c, .bool m.y]
theorem cell_below {w w1 : World} {p : Addr} {u : Value} (hb : Below w.heap.size w w1) (h : w.cell? p = some u) : w1.cell? p = some u := (hb.cell (World.block_lt_of_cell? w p h)).trans h
theorem MdAt.below {g : Nat} {m : Mo} {w w1 : World} (h : MdAt g m w) (hb : Below w.heap.size w w1) : MdAt g m w1 := Blk.below h hb
set_option maxHeartbeats 40000000 in
theorem walk (a b i : Int) (m : Mo) (W : World) (ha : 0 ≤ a ∧ a ≤ 255) (hb : 0 ≤ b ∧ b ≤ 255) (hc : 0 ≤ i ∧ i ≤ 255) : Calls Try.prog 9 #[.agg #[.int .u8 a, .int .u8 b], .int .u8 i, m.val] W fun e w' => e = .returned (.bool true) ∧ Below W.heap.size W w' := by
  obtain ⟨a1, a2⟩ := ha
  obtain ⟨b1, b2⟩ := hb
  obtain ⟨i1, i2⟩ := hc
  obtain ⟨w, hw⟩ : ∃ w : Nat, a % 64 + 1 = (w : Int) := ⟨(a % 64 + 1).toNat, by omega⟩
  obtain ⟨h, hh⟩ : ∃ h : Nat, b % 64 + 1 = (h : Int) := ⟨(b % 64 + 1).toNat, by omega⟩
  obtain ⟨n, hn⟩ : ∃ n : Nat, i % 178 + 1 = (n : Int) := ⟨(i % 178 + 1).toNat, by omega⟩
  have w1 : 1 ≤ w ∧ w ≤ 64 := by omega
  have h1 : 1 ≤ h ∧ h ≤ 64 := by omega
  have n1 : 1 ≤ n ∧ n ≤ 178 := by omega
  have hf : fits (w : Int) (h : Int) := by unfold fits; omega
  have ss := fun X => scan_yes w h hf X
  have hsz := scan_size w h
  have hN : w * h ≤ 4096 := Nat.mul_le_mul w1.2 h1.2
  have wm := wrap_mul w h (by omega)
  have mk := mkB (w * h) (by omega)
  obtain ⟨L, hL⟩ : ∃ L, L = scan w h := ⟨_, rfl⟩
  have new := scan_new w h
  rw [← hL] at ss hsz new
  have NEW := Lib.hid new
  obtain ⟨N0, hN0⟩ : ∃ N0, N0 = w * h := ⟨_, rfl⟩
  rw [← hN0] at wm mk hN hsz
  have HN := Lib.hid (And.intro hN0 (And.intro hN hsz))
  have A0 := Lib.hid (below_alloc (below_alloc (Below.refl _ W) (.cells #[.int .u8 a, .int .u8 b] 60)) (.cells #[.bool m.b, .bool m.r, .bool m.s, .bool m.c, .bool m.y] 47))
  have M0 : Hid (MdAt (W.heap.size + 1) m ((W.alloc (.cells #[.int .u8 a, .int .u8 b] 60)).alloc (.cells #[.bool m.b, .bool m.r, .bool m.s, .bool m.c, .bool m.y] 47))) := by
    have := Blk.new (W.alloc (.cells #[.int .u8 a, .int .u8 b] 60)) 47 #[.bool m.b, .bool m.r, .bool m.s, .bool m.c, .bool m.y]
    rw [show (W.alloc (.cells #[.int .u8 a, .int .u8 b] 60)).heap.size = W.heap.size + 1 by simp] at this
    exact this
  have HWH := Lib.hid (And.intro w1 (And.intro h1 n1))
  have HA := Lib.hid hw
  have wa : IntKind.i64.wrap (a % 64 + 1) = (w : Int) := by rw [IntWalk.i64_left, ← hw]; unfold wrap64; omega
  have wb : IntKind.i64.wrap (b % 64 + 1) = (h : Int) := by rw [IntWalk.i64_left, ← hh]; unfold wrap64; omega
  have wi : IntKind.i64.wrap (i % 178 + 1) = (n : Int) := by rw [IntWalk.i64_left, ← hn]; unfold wrap64; omega
  unfold Mo.val at *
  clear hw hh hn new hN hN0 hsz hf hL w1 h1 n1
  go_enter Try.func9, Try.ntmps9
  go_wp2_with fail
  go_quiet (fail)
  generalize hX : (W.alloc (.cells #[.int .u8 a, .int .u8 b] 60)).alloc (.cells #[.bool m.b, .bool m.r, .bool m.s, .bool m.c, .bool m.y] 47) = X at *
  have B1 := Lib.hid (below_call A0.out (drewN_below X nq))
  have M1 := Lib.hid (M0.out.below (drewN_below X nq))
  generalize X.drewN nq = w1 at *
  clear A0 M0 hX
  go_wp2_with fail
  refine (ss _).mono ?_
  rintro e w2 ⟨s2, m2, rfl, hP, hb⟩
  have B2 := Lib.hid (below_call (below_call B1.out hb) (below_alloc (Below.refl _ w2) (zB N0)))
  have M2 := Lib.hid ((M1.out.below hb).below (below_alloc (Below.refl _ w2) (zB N0)))
  have P2 := Lib.hid (hP.call (below_alloc (Below.refl _ w2) (zB N0)))
  have S2 : Hid (Sn (w2.alloc (zB N0)) w2.heap.size N0 (seenP w L 0)) := by
    have := sn_made (Blk.new w2 4 (madeCells #[.bool false] N0))
    exact this
  have A3 := Lib.hid (below_alloc (Below.refl w2.heap.size w2) (zB N0))
  have P0 := Lib.hid hP
  have M0 := Lib.hid (M1.out.below hb)
  have B0 := Lib.hid (below_call B1.out hb)
  clear ss hP hb B1 M1 B2 M2 P2
  go_wp2_with fail
  generalize hG : w2.heap.size = G at *
  have HG := Lib.hid hG
  have HL : Hid (L.length ≤ 4096) := by have := HN.out; exact Lib.hid (by omega)
  generalize hw3 : w2.alloc (zB N0) = w3 at *
  clear hw3 mk hG
  go_loopw [11] (fun z wr => ∃ k : Nat, k ≤ L.length ∧ z = .int .i64 (k : Int) ∧ Hid (Sn wr G N0 (seenP w L k) ∧ Below G w2 wr)) (fun i _ => L.length - (intOf i).toNat)
  case atStart => exact ⟨0, Nat.zero_le _, rfl, S2.out, A3.out⟩
  case round =>
    obtain ⟨k, hk, rfl, hT⟩ := hrel
    by_cases hlt : k < L.length
    · obtain ⟨X, Y, he, hX, hY, hseen, hpos⟩ := NEW.out k hlt
      have Pr := P0.out.call (by rw [HG.out]; exact hT.out.2 : Below w2.heap.size w2 wr)
      obtain ⟨g, hs2, hc, hd⟩ := Pr.at hlt
      subst hs2
      rw [he] at hc hd
      dsimp only at hc hd
      have hix : Y * w + X < N0 := by
        rw [HN.out.1, Nat.mul_comm w h]
        calc Y * w + X < Y * w + w := by omega
          _ = (Y + 1) * w := (Nat.succ_mul Y w).symm
          _ ≤ h * w := Nat.mul_le_mul_right _ hY
      have hsm : Y * w ≤ 4096 := by have := HN.out; omega
      have p1 := wrap_mul Y w (by omega)
      have p2 : IntKind.i64.wrap (((Y * w : Nat) : Int) + (X : Int)) = ((Y * w + X : Nat) : Int) := by rw [IntWalk.i64_left]; generalize Y * w = P at *; unfold wrap64; have := HN.out; omega
      have hA := below_alloc (Below.refl _ wr) (.cells #[.int .i64 (X : Int), .int .i64 (Y : Int)] 63)
      have S4 := hT.out.1.keep (hA.block _ hT.out.1.lt)
      have c4 := S4.at hix
      have f4 := S4.free (Y * w + X)
      rw [hseen] at c4
      have F7 : Hid (Sn ((wr.alloc (.cells #[.int .i64 (X : Int), .int .i64 (Y : Int)] 63)).setCell ⟨G, Y * w + X, none⟩ (.bool true)) G N0 (seenP w L (k + 1)) ∧ Below G w2 ((wr.alloc (.cells #[.int .i64 (X : Int), .int .i64 (Y : Int)] 63)).setCell ⟨G, Y * w + X, none⟩ (.bool true))) := by
        refine ⟨S4.put hix (fun j => by rw [seenP_succ w L k j hlt, hpos]), ?_⟩
        have hb2 : Below G w2 (wr.alloc (.cells #[.int .i64 (X : Int), .int .i64 (Y : Int)] 63)) := hT.out.2.trans (hA.mono (by have := hT.out.2.size; have := HG.out; omega))
        exact hb2.setCell (Nat.le_refl _) _
      have hL4 := HL.out
      have x0 : ¬ (X : Int) < 0 := by omega
      have x1 : ¬ (w : Int) ≤ (X : Int) := by omega
      have y0 : ¬ (Y : Int) < 0 := by omega
      have y1 : ¬ (h : Int) ≤ (Y : Int) := by omega
      have ixI : ((Y * w + X : Nat) : Int) < (N0 : Int) := by omega
      generalize Y * w + X = p at *
      generalize Y * w = pp at *
      clear hT Pr he hpos hA S4 hseen hX hY hsm
      go_wp2_with fail
      go_roundw
      case rel => exact ⟨k + 1, by omega, by go_num, F7⟩
      case measure => simp [intOf]; omega
    · obtain rfl : k = L.length := by omega
      have B3 := Lib.hid (B0.out.trans (hT.out.2.mono (by have := B0.out.size; have := HG.out; omega)))
      have M3 : Hid (MdAt (W.heap.size + 1) m wr) := M0.out.belowAt hT.out.2 (by have := M0.out.lt; have := HG.out; omega)
      have q3 := md M3.out
      have sg := segs_in n m HWH.out.2.2.1 HWH.out.2.2.2 wr
      have ok := segC_ok m.b m.r n
      have hle := (segC_len m.b m.r n).1
      obtain ⟨n', hn'⟩ : ∃ n', n' = min (n + 1) 178 := ⟨_, rfl⟩
      have sg2 := segs_in n' m (by omega) (by omega)
      have more : ∀ k, k + 1 < (segC m.b m.r n).length → k < (segC m.b m.r n').length ∧ (segC m.b m.r n').getD k 0 = (segC m.b m.r n).getD k 0 := by
        intro k hk
        by_cases h178 : n = 178
        · rw [show n' = n by omega]; exact ⟨by omega, rfl⟩
        · rw [show n' = n + 1 by have := HWH.out; omega]; exact segC_more m.b m.r n k hk
      have hle2 := (segC_len m.b m.r n').1
      generalize segC m.b m.r n = SL at *
      generalize segC m.b m.r n' = SL2 at *
      have OK := Lib.hid ok
      have MORE := Lib.hid more
      have SG2 := Lib.hid sg2
      have HLE := Lib.hid (And.intro hle (And.intro hle2 hn'))
      clear hT ok more sg2 hle hle2 hn' A3 P0 M0 B0 S2
      unfold Mo.val at sg SG2
      go_wp2_with fail
      refine sg.mono ?_
      rintro e w5 ⟨s5, m5, rfl, hI, hb⟩
      have B5 := Lib.hid (below_call B3.out hb)
      have M5 := Lib.hid (M3.out.below hb)
      have I5 := Lib.hid hI
      clear sg hb hI q3 B3 M3
      go_wp2_with fail
      go_loopw [15, 16] (fun t i wr => ∃ (k v : Nat), k ≤ SL.length ∧ i = .int .i64 (k : Int) ∧ t = .int .i64 (v : Int) ∧ Hid ((v : Int) = (SL.take k).sum ∧ Below w5.heap.size w5 wr)) (fun _ i _ => SL.length - (intOf i).toNat)
      case atStart => exact ⟨0, 0, Nat.zero_le _, rfl, rfl, rfl, Below.refl _ _⟩
      case round =>
        obtain ⟨k, v, hk, rfl, rfl, hT⟩ := hrel
        obtain ⟨wo, hwo⟩ : ∃ wo, wo = wr := ⟨_, rfl⟩
        subst hwo
        by_cases hlt : k < SL.length
        · obtain ⟨g, off, hs5, hc⟩ := (I5.out.call hT.out.2).at hlt
          subst hs5
          have hp := OK.out.piece k (SL.getD k 0) (by simp [List.getD, hlt])
          have hs := take_sum SL k hlt
          have hl1 := OK.out.le (k + 1) hlt
          rw [← hT.out.1] at hp hs
          rw [hs] at hl1
          obtain ⟨x, hx⟩ : ∃ x : Nat, SL.getD k 0 = (x : Int) := ⟨(SL.getD k 0).toNat, by omega⟩
          rw [hx] at hp hs hl1 hc
          have hn178 := HWH.out.2.2.2
          have p1 : IntKind.i64.wrap ((v : Int) + (x : Int)) = ((v + x : Nat) : Int) := by rw [IntWalk.i64_left]; unfold wrap64; omega
          have x1 : ¬ (x : Int) < 1 := by omega
          have x2 : ¬ (n : Int) < ((v + x : Nat) : Int) := by omega
          have x3 : v + x ≤ 178 := by omega
          have HP := Lib.hid (And.intro hp hs)
          have T0 := Lib.hid hT.out
          have BW := Lib.hid (below_call B5.out hT.out.2)
          have MW := Lib.hid (M5.out.below hT.out.2)
          clear hp hs hl1 hT hx hn178
          go_wp2_with fail
          go_loopw [17] (fun z wr => ∃ j : Nat, v ≤ j ∧ j ≤ v + x ∧ z = .int .i64 (j : Int) ∧ Hid (Below wo.heap.size wo wr)) (fun z _ => v + x - (intOf z).toNat)
          case atStart => exact ⟨v, by omega, by omega, rfl, Below.refl _ _⟩
          case round =>
            obtain ⟨j, hj1, hj2, rfl, hT⟩ := hrel
            by_cases hlj : j < v + x
            · have hr := HP.out.1.2 j (by omega) (by omega)
              have r1 := raw_c (j : Int) m (by omega)
              have r2 := raw_c (v : Int) m (by omega)
              rw [hr] at r1
              generalize rawM (v : Int) m.b = z at *
              have hz : (z != z) = false := by cases z <;> rfl
              have BQ := Lib.hid (below_call BW.out hT.out)
              have MQ := Lib.hid (MW.out.below hT.out)
              have BD : Hid (Below W.heap.size W wr.drew) := BQ.out.drew
              have MD : Hid (MdAt (W.heap.size + 1) m wr.drew) := MQ.out
              have qD := md MD.out
              have q0 := md MQ.out
              have QT := Lib.hid hT.out
              have hc' := (cell_below hT.out hc)
              unfold Mo.val at r1 r2
              clear hr hT
              go_wp2_with fail
              go_region_held3 (fun w' => w'.cell? ⟨W.heap.size + 1, 0, none⟩ = some (.bool m.b) ∧ w'.cell? ⟨W.heap.size + 1, 1, none⟩ = some (.bool m.r) ∧ w'.cell? ⟨W.heap.size + 1, 2, none⟩ = some (.bool m.s) ∧ w'.cell? ⟨W.heap.size + 1, 3, none⟩ = some (.bool m.c) ∧ w'.cell? ⟨W.heap.size + 1, 4, none⟩ = some (.bool m.y))
                (first | (with_reducible exact qD) | (with_reducible exact q0) | (with_reducible exact qw5) | (with_reducible exact qw6) | fail)
                (first | (go_simp; go_at_call 26; (with_reducible refine (r1 _).mono ?_); rintro e w6 ⟨rfl, hb⟩; have Bw5 := Lib.hid (below_call BD.out hb); have Mw5 := Lib.hid (MD.out.below hb); have qw5 := md Mw5.out; have Tw5 := Lib.hid (below_call (QT.out.drew) hb); clear hb) | (go_simp; go_at_call 26; (with_reducible refine (r2 _).mono ?_); rintro e w7 ⟨rfl, hb⟩; have Bw6 := Lib.hid (below_call Bw5.out hb); have Mw6 := Lib.hid (Mw5.out.below hb); have qw6 := md Mw6.out; have Tw6 := Lib.hid (below_call Tw5.out hb); clear hb) | fail)
              all_goals
                clear r1 r2 qD q0 qw5 qw6
                go_wp2_with fail
                go_roundw
                case rel => exact ⟨j + 1, by omega, by omega, by go_num, Tw6⟩
                case measure => simp [intOf]; omega
            · obtain rfl : j = v + x := by omega
              have hc' := cell_below hT.out hc
              have F6 : Hid (((v + x : Nat) : Int) = (SL.take (k + 1)).sum ∧ Below w5.heap.size w5 wr) := ⟨by rw [HP.out.2]; omega, below_call T0.out.2 hT.out⟩
              have hk178 : SL.length ≤ 178 := by have := HLE.out; have := HWH.out; omega
              clear hT
              go_wp2_with fail
              go_roundw
              case rel => exact ⟨k + 1, v + x, by omega, by go_num, rfl, F6⟩
              case measure => simp [intOf]; omega
        · obtain rfl : k = SL.length := by omega
          obtain rfl : v = n := by have h1 := OK.out.sum; have h2 := hT.out.1; rw [List.take_length] at h2; omega
          have B6 := Lib.hid (below_call B5.out hT.out.2)
          have M6 := Lib.hid (M5.out.below hT.out.2)
          have I6 := Lib.hid (I5.out.call hT.out.2)
          have q6 := md M6.out
          have hn178 := HWH.out.2.2
          have hn' := HLE.out.2.2
          have hle : SL.length ≤ 178 := by have := HLE.out; omega
          have hle2 : SL2.length ≤ 178 := by have := HLE.out; omega
          have v0 : ((v : Int) != (v : Int)) = false := by simp
          have v1 : ((L.length : Int) != (N0 : Int)) = false := by rw [HN.out.2.2]; simp
          have v2 : IntKind.i64.wrap ((v : Int) + 1) = (v : Int) + 1 := by rw [IntWalk.i64_left]; unfold wrap64; omega
          have hmn := hmn
          have v3 : min ((v : Int) + 1) 178 = (n' : Int) := by rw [hn']; omega
          have v4 : min 178 ((v : Int) + 1) = (n' : Int) := by rw [hn']; omega
          have HV := Lib.hid hn178
          have sg2 := SG2.out
          clear hT B5 M5 I5 SG2 hn' hn178
          go_wp2_with fail
          refine (sg2 _).mono ?_
          rintro e w7 ⟨s7, m7, rfl, hI, hb⟩
          have B7 := Lib.hid (below_call B6.out hb)
          have J7 := Lib.hid (I6.out.call hb)
          have I7 := Lib.hid hI
          clear sg2 hb hI q6 B6 M6 I6 v0 v1 v2 v3 v4 hmn
          go_wp2_with fail
          go_loopw [19] (fun i wr => ∃ k : Nat, k ≤ SL.length ∧ i = .int .i64 (k : Int) ∧ Hid (Below w7.heap.size w7 wr)) (fun i _ => SL.length - (intOf i).toNat)
          case atStart => exact ⟨0, Nat.zero_le _, rfl, Below.refl _ _⟩
          case round =>
            obtain ⟨k, hk, rfl, hT⟩ := hrel
            have p1 : IntKind.i64.wrap ((k : Int) + 1) = ((k + 1 : Nat) : Int) := by rw [IntWalk.i64_left]; unfold wrap64; omega
            by_cases hlt : k + 1 < SL.length
            · obtain ⟨m1, m2⟩ := MORE.out k hlt
              obtain ⟨g1, o1, e1, c1⟩ := (J7.out.call hT.out).at (k := k) (by omega)
              obtain ⟨g2, o2, e2, c2⟩ := (I7.out.call hT.out).at (k := k) m1
              rw [m2] at c2
              subst e1 e2
              generalize SL.getD k 0 = x at *
              have hx : (x != x) = false := by simp
              have hg : ¬ ((SL2.length : Int) ≤ (k : Int)) := by omega
              have hg' : decide ((SL2.length : Int) ≤ (k : Int)) = false := by simpa using hg
              have hl1 : k < SL.length := by omega
              have T0 := Lib.hid hT.out
              clear hT m2
              go_wp2_with fail
              go_quiet (fail)
              go_wp2_with fail
              go_roundw
              case rel => exact ⟨k + 1, by omega, by go_num, below_call T0.out (drewN_below _ _)⟩
              case measure => simp [intOf]; omega
            · have B8 := Lib.hid (below_call B7.out hT.out)
              obtain ⟨kk, hkk⟩ : ∃ kk : Nat, (v : Int) % 60 = (kk : Int) := ⟨v % 60, by omega⟩
              have hk60 : kk < 60 := by omega
              have p2 : IntKind.i64.wrap (3 * (kk : Int)) = 3 * (kk : Int) := by rw [IntWalk.i64_left]; unfold wrap64; omega
              have p3 : IntKind.i64.wrap (3 * (kk : Int) + 1) = 3 * (kk : Int) + 1 := by rw [IntWalk.i64_left]; unfold wrap64; omega
              have p4 : IntKind.i64.wrap ((kk : Int) + 1) = (kk : Int) + 1 := by rw [IntWalk.i64_left]; unfold wrap64; omega
              have f1 := pass_c (3 * (kk : Int)) (by omega)
              have f2 := pass_c (3 * (kk : Int) + 1) (by omega)
              rw [show plnP (3 * (kk : Int)) = (kk : Int) by unfold plnP; (repeat' split) <;> omega, show kndP (3 * (kk : Int)) = 2 by unfold kndP; (repeat' split) <;> omega] at f1
              rw [show plnP (3 * (kk : Int) + 1) = (kk : Int) + 1 by unfold plnP; (repeat' split) <;> omega, show kndP (3 * (kk : Int) + 1) = 0 by unfold kndP; (repeat' split) <;> omega] at f2
              have k1 : ((kk : Int) == (kk : Int)) = true := by simp
              have k2 : ((kk : Int) + 1 == (kk : Int) + 1) = true := by simp
              have k3 : (0 : Int) ≤ 3 * (kk : Int) := by omega
              clear hT hk60
              go_wp2_with (first | (go_at_call 24; (with_reducible refine (f1 _).mono ?_); rintro e wn ⟨rfl, rfl⟩) | (go_at_call 24; (with_reducible refine (f2 _).mono ?_); rintro e wn ⟨rfl, rfl⟩))
              refine (ex14_c _).mono ?_
              rintro e w9 ⟨rfl, hb⟩
              have B9 := Lib.hid (below_call B8.out hb)
              clear hb
              go_wp2_with fail
              go_ret
              exact ⟨rfl, B9.out⟩

set_option maxRecDepth 100000 in
theorem lifted (os : Os) (started : os.Started) (H : Type) (enc : TypeId × Value → H) :
    ReturnsInHanded {} Try.checked os 9 .any (Rows.cblkOrdersSpec.pre6 enc Try.prog Try.f9 Rows.cblkOrdersRow.domain false) (Rows.cblkOrdersSpec.post enc Try.prog Try.f9 false true false false) := by
  refine returnsInHanded_of_change (C := Try.checked) own started (by kernel_rfl) Try.func9
    (ChangeSpec.witness6 (enc := enc) (C := Try.checked) false ⟨#[], #[.agg #[.int .u8 0, .int .u8 0], .int .u8 0, .agg #[.bool false, .bool false, .bool false, .bool false, .bool false]], []⟩ 8 (by kernel_rfl) (by kernel_rfl) (by kernel_rfl) (by kernel_rfl)) ?_
  intro W base args ds gs before hval0 hW _ _
  have hval : ∀ (j : Nat) t v, Try.f9.params[j]? = some t → args[j]? = some v → Value.okWide Try.prog W .any base t v := hval0
  have hW' := hW
  obtain ⟨p, q, hA0, hV, rfl, _, _⟩ := hW
  have hA : DataW.TrodAll enc Try.prog W 0 (fun _ => true) true Try.f9.params.toList args.toList ds p := hA0
  rw [Try.params9] at hA hval
  obtain ⟨v0, vs0, d0, ds0, p0, q0, hargs, rfl, rfl, h0, r0⟩ := trodAll_cons hA
  obtain ⟨v1, vs1, d1, ds1, p1, q1, rfl, rfl, rfl, h1, r1⟩ := trodAll_cons r0
  obtain ⟨v2, vs2, d2, ds2, p2, q2, rfl, rfl, rfl, h2, r2⟩ := trodAll_cons r1
  obtain ⟨rfl, rfl, rfl⟩ := trodAll_nil r2
  obtain rfl : args = #[v0, v1, v2] := by cases args; simp_all
  obtain ⟨rfl, rfl⟩ := trodVars_none hV
  clear hA0 hval0
  simp only [List.append_nil] at hW'
  have l0 : ∀ x ∈ p0, x.block < W.heap.size := fun x hx => hW'.lt x (by simp [hx])
  have l1 : ∀ x ∈ p1, x.block < W.heap.size := fun x hx => hW'.lt x (by simp [hx])
  have l2 : ∀ x ∈ p2, x.block < W.heap.size := fun x hx => hW'.lt x (by simp [hx])
  obtain ⟨a0, b0, rfl, ra0, rb0⟩ := open_U2 (hval 0 60 v0 rfl rfl) h0
  obtain ⟨i1, rfl, _, _, wi1⟩ := open_int Try.underlying5 (hval 1 5 v1 rfl rfl) h1
  obtain ⟨m2, rfl⟩ := open_mode (hval 2 47 v2 rfl rfl) h2
  refine (walk a0 b0 i1 m2 W ra0 rb0 (u8_of wi1)).mono fun e W' ⟨he, hb⟩ => ?_
  subst he
  exact ⟨_, rfl, post_low (pa := p0 ++ (p1 ++ (p2 ++ ([])))) (pv := []) hW' (fun _ _ _ => (trodAll_cons_mk (shut_bool Try.underlying4 _) trodAll_mk0)) (fun sp hsp => (trodAll_cons_mk (trod_low laidOut (by kernel_rfl) (of_decide_eq_true (by kernel_rfl)) h0 hb l0 (fun x hx => hsp x (by simp [hx]))) (trodAll_cons_mk (trod_low laidOut (by kernel_rfl) (of_decide_eq_true (by kernel_rfl)) h1 hb l1 (fun x hx => hsp x (by simp [hx]))) (trodAll_cons_mk (trod_low laidOut (by kernel_rfl) (of_decide_eq_true (by kernel_rfl)) h2 hb l2 (fun x hx => hsp x (by simp [hx]))) trodAll_mk0)))) (fun _ _ => rfl) (by simp) hb (ok_one (by kernel_rfl) rfl (okWide_bool_mk Try.underlying4 _))⟩

theorem over : Rows.cblkOrdersRow.holds Try.pinned (OpenSpec.ofChange Rows.cblkOrdersSpec) :=
  OpenClaim.holds_of_wide 9 Try.f9 rfl rfl rfl rfl rfl rfl rfl ⟨rfl, rfl, rfl, rfl, rfl⟩ rfl rfl rfl rfl rfl (by kernel_rfl) Try.func9 (by kernel_rfl)
    (of_decide_eq_true (by kernel_rfl)) (by unfold Func.isWrapper; first | (rw [if_pos (by decide +kernel)]; kernel_rfl) | (rw [if_neg (by decide +kernel)]; exact ⟨rfl, rfl⟩))
    (fun os started H enc _ => lifted os started H enc)

theorem proved : Rows.CblkOrdersSaid :=
  over
#print axioms proved
end Go.Proofs.Ytdpfojenljejiaa.cblkOrders
