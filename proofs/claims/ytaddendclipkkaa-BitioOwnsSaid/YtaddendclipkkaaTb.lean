/-
  Layer 10: the code's least and Set.
-/
import Derived.Test.YtaddendclipkkaaTa
set_option maxRecDepth 100000
namespace Go.Proofs.Ytaddendclipkkaa
open Go.RowKit

theorem hmn (x y : Int) : (if y < x then y else x) = min x y := by split <;> omega
theorem hmx (x y : Int) : (if x < y then y else x) = max x y := by split <;> omega
theorem cell_below {w w1 : World} {p : Addr} {u : Value} (hb : Below w.heap.size w w1) (h : w.cell? p = some u) : w1.cell? p = some u := (hb.cell (World.block_lt_of_cell? w p h)).trans h
/-- What is kept but some blocks. -/
structure Kf (S : Nat → Prop) (W W' : World) : Prop where
  os : W'.os = W.os
  tape : W'.tape = W.tape
  output : W'.output = W.output
  size : W.heap.size ≤ W'.heap.size
  block : ∀ k, k < W.heap.size → ¬ S k → W'.heap[k]? = W.heap[k]?
section
variable {S S' : Nat → Prop} {W W' W1 W2 : World} {B A L w h D : Nat} {nd : Nat → Nat} {u : Int} {Q : Nat → Nat → Nat → Nd}
theorem Kf.refl (S : Nat → Prop) (W : World) : Kf S W W := ⟨rfl, rfl, rfl, Nat.le_refl _, fun _ _ _ => rfl⟩
theorem Kf.trans (h : Kf S W W1) (h' : Kf S W1 W2) : Kf S W W2 := ⟨h'.os.trans h.os, h'.tape.trans h.tape, h'.output.trans h.output, Nat.le_trans h.size h'.size, fun k hk hf => (h'.block k (Nat.lt_of_lt_of_le hk h.size) hf).trans (h.block k hk hf)⟩
theorem Kf.of_below (S : Nat → Prop) (h : Below W.heap.size W W') : Kf S W W' := ⟨h.os, h.tape, h.output, h.size, fun k hk _ => h.block k hk⟩
theorem Kf.mono (h : Kf S W W') (hs : ∀ k, S k → S' k) : Kf S' W W' := ⟨h.os, h.tape, h.output, h.size, fun k hk hn => h.block k hk fun hk' => hn (hs k hk')⟩
theorem Kf.below {B : Nat} (h : Kf S W W') (hf : ∀ k, S k → B ≤ k) (hB : B ≤ W.heap.size) : Below B W W' := ⟨h.os, h.tape, h.output, h.size, fun k hk => h.block k (by omega) fun hm => by have := hf k hm; omega⟩
theorem Kf.set (g i : Nat) (u : Value) (hg : S g) (W : World) : Kf S W (W.setCell ⟨g, i, none⟩ u) := ⟨rfl, rfl, rfl, by simp [World.setCell], fun k _ hf => Below.heap_setCell _ _ _ _ fun e => hf (by simp at e; rw [e]; exact hg)⟩
/-- The three cells of a node. -/
def comp (n : Nd) : Nat → Value
  | 0 => .int .i64 n.v
  | 1 => .int .i64 n.l
  | _ => .bool n.b
def upN (Q : Nat → Nat → Nat → Nd) (k X Y : Nat) (n : Nd) : Nat → Nat → Nat → Nd := fun i a b => if i = k ∧ a = X ∧ b = Y then n else Q i a b
theorem Tr.types (H : Tr W B A L nd w h D u Q) {k : Nat} (hk : k < D) : nd k ≠ A ∧ nd k ≠ L ∧ A ≠ L := by
  obtain ⟨m, ho⟩ := H.obj
  obtain ⟨cs, hl, _⟩ := H.lvs
  obtain ⟨ds, hn, _⟩ := H.nds k hk
  exact ⟨hn.ne ho (by decide), hn.ne hl (by decide), ho.ne hl (by decide)⟩
theorem Tr.put (H : Tr W B A L nd w h D u Q) {k X Y : Nat} (hk : k < D) (hX : X < dm w k) (hY : Y < dm h k) (c : Nat) (hc : c < 3) (n : Nd) (hn : ∀ c', c' < 3 → c' ≠ c → comp n c' = comp (Q k X Y) c') (hb : 0 ≤ n.l ∧ n.l ≤ 65536) {o : Nat} (ho : o = (Y * dm w k + X) * 3 + c) :
    Tr (W.setCell ⟨nd k, o, none⟩ (comp n c)) B A L nd w h D u (upN Q k X Y n) := by
  subst ho
  obtain ⟨t1, t2, t3⟩ := H.types hk
  obtain ⟨m, hobj⟩ := H.obj
  obtain ⟨cs, hl, hl2⟩ := H.lvs
  refine ⟨H.w1, H.h1, H.sz, H.ws, H.hs, H.d1, H.d2, H.top, H.us, H.geA, H.geL, H.geN, H.inj, ⟨m, hobj.far (p := ⟨nd k, _, none⟩) (fun e => t1 e.symm) _⟩, ⟨cs, hl.far (p := ⟨nd k, _, none⟩) (fun e => t2 e.symm) _, hl2⟩, fun i hi => ?_, fun i a b => ?_⟩
  · obtain ⟨ds, h1, h2⟩ := H.nds i hi
    by_cases hik : i = k
    · subst hik
      refine ⟨_, h1.set _ _, fun x y hx hy => ?_⟩
      obtain ⟨a0, a1, a2⟩ := h2 x y hx hy
      obtain ⟨b0, b1, b2⟩ := h2 X Y hX hY
      unfold upN
      have hin : ((Y * dm w i + X) * 3 + c) < ds.size := by
        have := (Array.getElem?_eq_some_iff.1 b2).1
        omega
      by_cases hxy : x = X ∧ y = Y
      · obtain ⟨rfl, rfl⟩ := hxy
        rw [if_pos ⟨rfl, rfl, rfl⟩]
        have key : ∀ c', c' < 3 → (ds.setIfInBounds ((y * dm w i + x) * 3 + c) (comp n c))[(y * dm w i + x) * 3 + c']? = some (comp n c') := by
          intro c' hc'
          rw [Array.getElem?_setIfInBounds]
          by_cases he : c' = c
          · subst he
            rw [if_pos rfl, if_pos hin]
          · rw [if_neg (by omega), hn c' hc' he]
            match c', hc' with
            | 0, _ => exact a0
            | 1, _ => exact a1
            | 2, _ => exact a2
        exact ⟨key 0 (by omega), key 1 (by omega), key 2 (by omega)⟩
      · rw [if_neg (fun e => hxy e.2)]
        have hne : y * dm w i + x ≠ Y * dm w i + X := fun e => hxy (grid_inj hx hX e)
        generalize y * dm w i + x = p at *
        generalize Y * dm w i + X = q at *
        refine ⟨?_, ?_, ?_⟩
        · rw [Array.getElem?_setIfInBounds, if_neg (by omega)]; exact a0
        · rw [Array.getElem?_setIfInBounds, if_neg (by omega)]; exact a1
        · rw [Array.getElem?_setIfInBounds, if_neg (by omega)]; exact a2
    · refine ⟨ds, h1.far (p := ⟨nd k, _, none⟩) (fun e => hik (H.inj i k hi hk e)) _, fun x y hx hy => ?_⟩
      unfold upN
      rw [if_neg (fun e => hik e.1)]
      exact h2 x y hx hy
  · unfold upN
    split
    · exact hb
    · exact H.qb i a b
theorem Tr.free (H : Tr W B A L nd w h D u Q) {k : Nat} (hk : k < D) (o : Nat) : W.frozen? ⟨nd k, o, none⟩ = false := by
  obtain ⟨ds, hn, _⟩ := H.nds k hk
  exact hn.free o
theorem Tr.freeA (H : Tr W B A L nd w h D u Q) (o : Nat) : W.frozen? ⟨A, o, none⟩ = false := by
  obtain ⟨m, ho⟩ := H.obj
  exact ho.free o
end
set_option maxHeartbeats 4000000 in
theorem least_c {W : World} {B A L w h D : Nat} {nd : Nat → Nat} {u : Int} {Q : Nat → Nat → Nat → Nd} (H : Tr W B A L nd w h D u Q) (j x y : Nat) (hj : j + 1 < D) (hx : x < w) (hy : y < h) : Calls Try.prog 62 #[.pointer (some ⟨A, 0, none⟩), .int .i64 ((j + 1 : Nat) : Int), .int .i64 (x : Int), .int .i64 (y : Int)] W
    fun e w' => e = .returned (.int .i64 (lsA (fun X Y => (Q j X Y).v) (2 * (x / 2 ^ (j + 1))) (2 * (y / 2 ^ (j + 1))) (min 2 (dm w j - 2 * (x / 2 ^ (j + 1)))) 65535 (min 2 (dm h j - 2 * (y / 2 ^ (j + 1)))))) ∧ Below W.heap.size W w' := by
  obtain ⟨c0, ⟨m, c1⟩, c2⟩ := H.cells
  obtain ⟨l0, l1, m2, l2⟩ := H.level (k := j) (by omega)
  obtain ⟨d1, d2, d3, d4, d5⟩ := H.dims j
  have hX := dm_at hx (j + 1)
  have hY := dm_at hy (j + 1)
  have eX : dm w (j + 1) = (dm w j + 1) / 2 := rfl
  have eY : dm h (j + 1) = (dm h j + 1) / 2 := rfl
  have hd17 := H.d2
  have px := cast_pow x (j + 1)
  have py := cast_pow y (j + 1)
  have hws := H.ws
  have hhs := H.hs
  have hnode := fun (X Y : Nat) (h1 : X < dm w j) (h2 : Y < dm h j) => (H.node (k := j) (by omega) h1 h2).1
  have hjw : IntKind.i64.wrap (((j + 1 : Nat) : Int) - 1) = (j : Int) := by rw [IntWalk.i64_left]; unfold wrap64; omega
  have hgl := fun (X Y : Nat) (h1 : X < dm w j) (h2 : Y < dm h j) => grid_lt h1 h2
  have jD : (j : Int) < (D : Int) := by omega
  rw [eX] at hX
  rw [eY] at hY
  clear eX eY
  generalize (x / 2 ^ (j + 1)) = X at *
  generalize (y / 2 ^ (j + 1)) = Y at *
  obtain ⟨g, hg⟩ : ∃ g : Nat → Nat → Int, g = fun X Y => (Q j X Y).v := ⟨_, rfl⟩
  rw [← hg]
  replace hnode : ∀ X Y : Nat, X < dm w j → Y < dm h j → W.cell? ⟨nd j, (Y * dm w j + X) * 3, none⟩ = some (.int .i64 (g X Y)) := by rw [hg]; exact hnode
  have NODE := Lib.hid (fun (X' : World) (hX' : Below W.heap.size W X') (X Y : Nat) (h1 : X < dm w j) (h2 : Y < dm h j) => cell_below hX' (hnode X Y h1 h2))
  have GL := Lib.hid hgl
  have A1 := Lib.hid (below_alloc (Below.refl _ W) (.cells #[.int .i64 (dm w j : Int), .int .i64 (dm h j : Int), .slice (some ⟨nd j, 0, none⟩) (dm w j * dm h j) m2] 94))
  have M1 := Lib.hid (Blk.new W 94 #[.int .i64 (dm w j : Int), .int .i64 (dm h j : Int), .slice (some ⟨nd j, 0, none⟩) (dm w j * dm h j) m2])
  have q1 : IntKind.i64.wrap (2 * (X : Int)) = ((2 * X : Nat) : Int) := by rw [IntWalk.i64_left]; unfold wrap64; omega
  have q2 : IntKind.i64.wrap (2 * (Y : Int)) = ((2 * Y : Nat) : Int) := by rw [IntWalk.i64_left]; unfold wrap64; omega
  have hX2 : 2 * X < dm w j := by omega
  have hY2 : 2 * Y < dm h j := by omega
  have hb1 : dm w j ≤ 65536 := by omega
  have hb2 : dm h j ≤ 65536 := by omega
  generalize 2 * X = lf at *
  generalize 2 * Y = tp at *
  generalize hN : dm w j * dm h j = N at *
  clear hN
  generalize dm w j = wj at *
  generalize dm h j = hjj at *
  have hmn := hmn
  clear H hg hnode hgl hx hy hX hY d1 d2 d3 d4 hws hhs
  go_enter Try.func62, Try.ntmps62
  go_wp2_with fail
  go_quiet (fail)
  have B1 : Hid (Below W.heap.size W ((W.alloc (.cells #[.int .i64 (wj : Int), .int .i64 (hjj : Int), .slice (some ⟨nd j, 0, none⟩) N m2] 94)).drewN nq)) := by
    have := below_call A1.out (drewN_below _ nq)
    exact this
  have M2 := Lib.hid (M1.out.below (drewN_below _ nq))
  clear A1 M1 px py q1 q2 c0 c1 c2 l0 l1 l2
  generalize (W.alloc (.cells #[.int .i64 (wj : Int), .int .i64 (hjj : Int), .slice (some ⟨nd j, 0, none⟩) N m2] 94)).drewN nq = W1 at *
  go_wp2_with fail
  go_loopw [12, 13] (fun a i wr => ∃ r : Nat, r ≤ min 2 (hjj - tp) ∧ i = .int .i64 ((tp + r : Nat) : Int) ∧ a = .int .i64 (lsA g lf tp (min 2 (wj - lf)) 65535 r) ∧ Hid (Below W1.heap.size W1 wr)) (fun _ i _ => tp + min 2 (hjj - tp) - (intOf i).toNat)
  case atStart => exact ⟨0, by omega, rfl, rfl, Below.refl _ _⟩
  case round =>
    obtain ⟨r, hr, rfl, rfl, hT⟩ := hrel
    obtain ⟨wo, hwo⟩ : ∃ wo, wo = wr := ⟨_, rfl⟩
    subst hwo
    have MB := M2.out.below hT.out
    have e0 : wo.cell? ⟨W.heap.size, 0, none⟩ = some (.int .i64 (wj : Int)) := MB.cell 0
    have e1 : wo.cell? ⟨W.heap.size, 1, none⟩ = some (.int .i64 (hjj : Int)) := MB.cell 1
    have e2 : wo.cell? ⟨W.heap.size, 2, none⟩ = some (.slice (some ⟨nd j, 0, none⟩) N m2) := MB.cell 2
    have MH := Lib.hid MB
    have T0 := Lib.hid hT.out
    have f1 : IntKind.i64.wrap ((tp : Int) + 2) = (tp : Int) + 2 := by rw [IntWalk.i64_left]; unfold wrap64; omega
    clear MB hT
    by_cases hlr : r < min 2 (hjj - tp)
    · have f2 : ((tp + r : Nat) : Int) < min ((tp : Int) + 2) (hjj : Int) := by omega
      have f3 : ((tp + r : Nat) : Int) < min (hjj : Int) ((tp : Int) + 2) := by omega
      obtain ⟨row, hrow⟩ : ∃ row, row = tp + r := ⟨_, rfl⟩
      have hacc : lsA g lf tp (min 2 (wj - lf)) 65535 (r + 1) = lsR g row lf (lsA g lf tp (min 2 (wj - lf)) 65535 r) (min 2 (wj - lf)) := by rw [hrow]; rfl
      rw [← hrow] at f2 f3 ⊢
      have HR := Lib.hid hrow
      have HAC := Lib.hid hacc
      have hrl : row < hjj := by omega
      generalize lsA g lf tp (min 2 (wj - lf)) 65535 r = acc at *
      clear hrow hacc
      go_wp2_with fail
      go_loopw [12, 14] (fun a i wr => ∃ c : Nat, c ≤ min 2 (wj - lf) ∧ i = .int .i64 ((lf + c : Nat) : Int) ∧ a = .int .i64 (lsR g row lf acc c) ∧ Hid (Below wo.heap.size wo wr)) (fun _ i _ => lf + min 2 (wj - lf) - (intOf i).toNat)
      case atStart => exact ⟨0, by omega, rfl, rfl, Below.refl _ _⟩
      case round =>
        obtain ⟨c, hc, rfl, rfl, hT⟩ := hrel
        have MB := MH.out.below hT.out
        have d0 : wr.cell? ⟨W.heap.size, 0, none⟩ = some (.int .i64 (wj : Int)) := MB.cell 0
        have d1 : wr.cell? ⟨W.heap.size, 1, none⟩ = some (.int .i64 (hjj : Int)) := MB.cell 1
        have d2 : wr.cell? ⟨W.heap.size, 2, none⟩ = some (.slice (some ⟨nd j, 0, none⟩) N m2) := MB.cell 2
        have T1 := Lib.hid hT.out
        have k1 : IntKind.i64.wrap ((lf : Int) + 2) = (lf : Int) + 2 := by rw [IntWalk.i64_left]; unfold wrap64; omega
        clear MB hT
        by_cases hlc : c < min 2 (wj - lf)
        · have k2 : ((lf + c : Nat) : Int) < min ((lf : Int) + 2) (wj : Int) := by omega
          have k3 : ((lf + c : Nat) : Int) < min (wj : Int) ((lf : Int) + 2) := by omega
          obtain ⟨col, hcol⟩ : ∃ col, col = lf + c := ⟨_, rfl⟩
          have hac : lsR g row lf acc (c + 1) = min (lsR g row lf acc c) (g col row) := by rw [hcol]; rfl
          rw [← hcol] at k2 k3 ⊢
          have hcl : col < wj := by omega
          have hcell := NODE.out wr (below_call (below_call B1.out T0.out) T1.out) col row hcl hrl
          have hin := GL.out col row hcl hrl
          have hrw : row * wj ≤ 65536 := by omega
          have p1 : IntKind.i64.wrap ((row : Int) * (wj : Int)) = ((row * wj : Nat) : Int) := by rw [← Int.natCast_mul, IntWalk.i64_left]; generalize row * wj = P at *; unfold wrap64; omega
          have p2 : IntKind.i64.wrap (((row * wj : Nat) : Int) + (col : Int)) = ((row * wj + col : Nat) : Int) := by rw [IntWalk.i64_left]; generalize row * wj = P at *; unfold wrap64; omega
          have hinI : ((row * wj + col : Nat) : Int) < (N : Int) := by omega
          have p3 : IntKind.i64.wrap ((col : Int) + 1) = ((lf + (c + 1) : Nat) : Int) := by rw [IntWalk.i64_left, hcol]; unfold wrap64; omega
          have HCC := Lib.hid hcol
          have HAC2 := Lib.hid hac
          generalize row * wj + col = ii at *
          generalize row * wj = P at *
          generalize lsR g row lf acc c = a0 at *
          generalize g col row = gv at *
          clear hcol hac hb1 hb2
          go_wp2_with fail
          go_roundw
          case rel => exact ⟨c + 1, by omega, rfl, by rw [HAC2.out], T1.out⟩
          case measure => simp only [intOf]; have := HCC.out; omega
        · obtain rfl : c = min 2 (wj - lf) := by omega
          have F1 := Lib.hid (below_call T0.out T1.out)
          have k2 : ¬ ((lf + min 2 (wj - lf) : Nat) : Int) < min ((lf : Int) + 2) (wj : Int) := by omega
          have k3 : ¬ ((lf + min 2 (wj - lf) : Nat) : Int) < min (wj : Int) ((lf : Int) + 2) := by omega
          have p3 : IntKind.i64.wrap ((row : Int) + 1) = ((tp + (r + 1) : Nat) : Int) := by rw [IntWalk.i64_left, HR.out]; unfold wrap64; omega
          generalize lsR g row lf acc (min 2 (wj - lf)) = z at *
          generalize lf + min 2 (wj - lf) = q at *
          go_wp2_with fail
          go_roundw
          case rel => exact ⟨r + 1, by omega, rfl, by rw [HAC.out], F1.out⟩
          case measure => simp only [intOf]; have := HR.out; omega
    · obtain rfl : r = min 2 (hjj - tp) := by omega
      have k2 : ¬ ((tp + min 2 (hjj - tp) : Nat) : Int) < min ((tp : Int) + 2) (hjj : Int) := by omega
      have k3 : ¬ ((tp + min 2 (hjj - tp) : Nat) : Int) < min (hjj : Int) ((tp : Int) + 2) := by omega
      have F1 := Lib.hid (below_call B1.out T0.out)
      generalize hz : lsA g lf tp (min 2 (wj - lf)) 65535 (min 2 (hjj - tp)) = z at *
      have HZ := Lib.hid hz
      clear hz
      generalize tp + min 2 (hjj - tp) = q at *
      go_wp2_with fail
      go_ret
      exact ⟨by rw [HZ.out]; rfl, F1.out⟩
/-- The nodes of a tree: leaf values f, bounds l, known b. -/
def mkQ (w h : Nat) (f : Nat → Nat → Int) (l : Nat → Nat → Nat → Int) (b : Nat → Nat → Nat → Bool) : Nat → Nat → Nat → Nd := fun k X Y => ⟨mv w h f k X Y, l k X Y, b k X Y⟩
/-- While a leaf is being set: the levels below k are done. -/
def mkS (w h : Nat) (f f' : Nat → Nat → Int) (l : Nat → Nat → Nat → Int) (b : Nat → Nat → Nat → Bool) (m : Nat) : Nat → Nat → Nat → Nd := fun k X Y => ⟨mv w h (if k < m then f' else f) k X Y, l k X Y, b k X Y⟩
theorem mkS_zero (w h : Nat) (f f' : Nat → Nat → Int) (l : Nat → Nat → Nat → Int) (b : Nat → Nat → Nat → Bool) : mkS w h f f' l b 0 = mkQ w h f l b := rfl
theorem mkS_next (w h : Nat) (f : Nat → Nat → Int) (x y : Nat) (v : Int) (l : Nat → Nat → Nat → Int) (b : Nat → Nat → Nat → Bool) (k : Nat) :
    upN (mkS w h f (upF f x y v) l b k) k (x / 2 ^ k) (y / 2 ^ k) ⟨mv w h (upF f x y v) k (x / 2 ^ k) (y / 2 ^ k), l k (x / 2 ^ k) (y / 2 ^ k), b k (x / 2 ^ k) (y / 2 ^ k)⟩ = mkS w h f (upF f x y v) l b (k + 1) := by
  funext i X Y
  unfold upN mkS
  by_cases hi : i = k
  · subst hi
    by_cases hxy : X = x / 2 ^ i ∧ Y = y / 2 ^ i
    · obtain ⟨rfl, rfl⟩ := hxy
      rw [if_pos ⟨rfl, rfl, rfl⟩, if_pos (by omega)]
    · rw [if_neg (fun e => hxy e.2), if_neg (by omega), if_pos (by omega), mv_far w h f x y v i X Y hxy]
  · rw [if_neg (fun e => hi e.1)]
    by_cases hk : i < k
    · rw [if_pos hk, if_pos (by omega)]
    · rw [if_neg hk, if_neg (by omega)]
end Go.Proofs.Ytaddendclipkkaa
