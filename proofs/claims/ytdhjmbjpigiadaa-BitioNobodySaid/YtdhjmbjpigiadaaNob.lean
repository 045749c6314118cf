/-
  Writers and readers that no function of layer 9 returned.
-/
import Derived.Test.YtdhjmbjpigiadaaFrameO
set_option maxRecDepth 100000
namespace Go.Proofs.Ytdhjmbjpigiadaa
open Go.ChangeShapes Go.WideShapes Go.ChangeAt Go.RowKit Go.Joins Go.Deep

/-- A writer (a reader) that made refuses, in all later worlds. -/
def NoW (q : Option Addr) (w : World) : Prop := ∀ W, Below w.heap.size w W → Calls Try.prog 62 #[.pointer q] W fun e w' => e = .returned (.bool false) ∧ W = w'
def NoR (q : Option Addr) (w : World) : Prop := ∀ W, Below w.heap.size w W → Calls Try.prog 70 #[.pointer q] W fun e w' => e = .returned (.bool false) ∧ W = w'
theorem NoW.step {q : Option Addr} {w w1 : World} (h : NoW q w) (hb : Below w.heap.size w w1) : NoW q w1 := fun W hW => h W (below_call hb hW)
theorem NoR.step {q : Option Addr} {w w1 : World} (h : NoR q w) (hb : Below w.heap.size w w1) : NoR q w1 := fun W hW => h W (below_call hb hW)
theorem noW_nil (w : World) : NoW none w := fun W _ => made_n0 W
theorem noR_nil (w : World) : NoR none w := fun W _ => rmade_n W
theorem noW_zero {w : World} {a : Nat} (h : w.cell? ⟨a, 0, none⟩ = some (.pointer none)) : NoW (some ⟨a, 0, none⟩) w := fun W hb => made_z a W ((hb.cell (p := ⟨a, 0, none⟩) (cell_lt h)).trans h)
theorem noR_zero {w : World} {a : Nat} (h : w.cell? ⟨a, 0, none⟩ = some (.pointer none)) : NoR (some ⟨a, 0, none⟩) w := fun W hb => rmade_z a W ((hb.cell (p := ⟨a, 0, none⟩) (cell_lt h)).trans h)
/-- ErrState, or zero values; nothing changes. -/
def WNo (w : World) (e : Ending) (w' : World) : Prop := e = .returned (.int .i64 6) ∧ Below w.heap.size w w'
def RNo (w : World) (e : Ending) (w' : World) : Prop := e = .returned (.tuple #[.int .i64 0, .int .i64 6]) ∧ Below w.heap.size w w'
theorem nbits (q : Option Addr) (v n : Int) (w : World) (h : NoW q w) : Calls Try.prog 57 #[.pointer q, .int .i64 v, .int .i64 n] w (WNo w) := by
  have hm := h w (Below.refl _ _)
  go_enter Try.func57, Try.ntmps57
  go_wp2_with (first | (go_at_call 62; (with_reducible refine hm.mono ?_); rintro e wn ⟨rfl, rfl⟩))
  go_ret
  exact ⟨rfl, Below.refl _ _⟩
theorem ngam (q : Option Addr) (v : Int) (w : World) (h : NoW q w) : Calls Try.prog 55 #[.pointer q, .int .i64 v] w (WNo w) := by
  have hm := h w (Below.refl _ _)
  go_enter Try.func55, Try.ntmps55
  go_wp2_with (first | (go_at_call 62; (with_reducible refine hm.mono ?_); rintro e wn ⟨rfl, rfl⟩))
  go_ret
  exact ⟨rfl, Below.refl _ _⟩
theorem nuna (q : Option Addr) (v : Int) (w : World) (h : NoW q w) : Calls Try.prog 54 #[.pointer q, .int .i64 v] w (WNo w) := by
  have hm := h w (Below.refl _ _)
  go_enter Try.func54, Try.ntmps54
  go_wp2_with (first | (go_at_call 62; (with_reducible refine hm.mono ?_); rintro e wn ⟨rfl, rfl⟩))
  go_ret
  exact ⟨rfl, Below.refl _ _⟩
theorem nput (q : Option Addr) (v : Int) (w : World) (h : NoW q w) : Calls Try.prog 35 #[.pointer q, .int .i64 v] w (WNo w) := by
  have hm := nbits q v 1 w h
  go_enter Try.func35, Try.ntmps35
  go_wp2_with (first | (go_at_call 57; (with_reducible refine hm.mono ?_); rintro e wn ⟨rfl, hb⟩))
  go_ret
  exact ⟨rfl, hb⟩
theorem nlen (q : Option Addr) (w : World) (h : NoW q w) : Calls Try.prog 24 #[.pointer q] w fun e w' => e = .returned (.int .i64 0) ∧ w = w' := by
  have hm := h w (Below.refl _ _)
  go_enter Try.func24, Try.ntmps24
  go_wp2_with (first | (go_at_call 62; (with_reducible refine hm.mono ?_); rintro e wn ⟨rfl, rfl⟩))
  go_ret
  exact ⟨rfl, rfl⟩
theorem nbytes (q : Option Addr) (w : World) (h : NoW q w) : Calls Try.prog 27 #[.pointer q] w fun e w' => e = .returned (.slice none 0 0) ∧ w = w' := by
  have hm := h w (Below.refl _ _)
  go_enter Try.func27, Try.ntmps27
  go_wp2_with (first | (go_at_call 62; (with_reducible refine hm.mono ?_); rintro e wn ⟨rfl, rfl⟩))
  go_ret
  exact ⟨rfl, rfl⟩
theorem nget (q : Option Addr) (w : World) (h : NoR q w) : Calls Try.prog 34 #[.pointer q] w (RNo w) := by
  have hm := h w (Below.refl _ _)
  go_enter Try.func34, Try.ntmps34
  go_wp2_with (first | (go_at_call 70; (with_reducible refine hm.mono ?_); rintro e wn ⟨rfl, rfl⟩))
  go_ret2
  exact ⟨rfl, Below.refl _ _⟩
theorem nalign (q : Option Addr) (w : World) (h : NoR q w) : Calls Try.prog 33 #[.pointer q] w (RNo w) := by
  have hm := h w (Below.refl _ _)
  go_enter Try.func33, Try.ntmps33
  go_wp2_with (first | (go_at_call 70; (with_reducible refine hm.mono ?_); rintro e wn ⟨rfl, rfl⟩))
  go_ret2
  exact ⟨rfl, Below.refl _ _⟩
theorem nrbits (q : Option Addr) (n : Int) (w : World) (h : NoR q w) : Calls Try.prog 56 #[.pointer q, .int .i64 n] w (RNo w) := by
  have hA : Below w.heap.size w ((w.alloc (.cells #[.pointer q] 38)).alloc (.cells #[.int .i64 n] 3)) := below_alloc (below_alloc (Below.refl _ _) _) _
  have hm := h _ hA
  go_enter Try.func56, Try.ntmps56
  go_wp2_with (first | (go_at_call 70; (with_reducible refine hm.mono ?_); rintro e wn ⟨rfl, rfl⟩))
  go_ret2
  exact ⟨rfl, hA⟩
theorem nruna (q : Option Addr) (n : Int) (w : World) (h : NoR q w) : Calls Try.prog 65 #[.pointer q, .int .i64 n] w (RNo w) := by
  have hA : Below w.heap.size w ((w.alloc (.cells #[.pointer q] 38)).alloc (.cells #[.int .i64 n] 3)) := below_alloc (below_alloc (Below.refl _ _) _) _
  have hm := h _ hA
  go_enter Try.func65, Try.ntmps65
  go_wp2_with (first | (go_at_call 70; (with_reducible refine hm.mono ?_); rintro e wn ⟨rfl, rfl⟩))
  go_ret2
  exact ⟨rfl, hA⟩
theorem nrgam (q : Option Addr) (w : World) (h : NoR q w) : Calls Try.prog 64 #[.pointer q] w (RNo w) := by
  have hA : Below w.heap.size w (w.alloc (.cells #[.pointer q] 38)) := below_alloc (Below.refl _ _) _
  have hm := h _ hA
  go_enter Try.func64, Try.ntmps64
  go_wp2_with (first | (go_at_call 70; (with_reducible refine hm.mono ?_); rintro e wn ⟨rfl, rfl⟩))
  go_ret2
  exact ⟨rfl, hA⟩
theorem nwrite (q : Option Addr) (k v n : Int) (w : World) (h : NoW q w) (hk : 0 ≤ k ∧ k < 4) : Calls Try.prog 22 #[.pointer q, .agg #[.int .i64 k, .int .i64 v, .int .i64 n]] w (WNo w) := by
  have hA : Below w.heap.size w (w.alloc (.cells #[.int .i64 k, .int .i64 v, .int .i64 n] 30)) := (Below.refl _ _).alloc (Nat.le_refl _) _
  have h1 := h.step hA
  have a0 := nput q v _ h1
  have a1 := nbits q v n _ h1
  have a2 := ngam q v _ h1
  have a3 := nuna q v _ h1
  rcases (show k = 0 ∨ k = 1 ∨ k = 2 ∨ k = 3 by omega) with rfl | rfl | rfl | rfl
  · go_enter Try.func22, Try.ntmps22
    go_wp2_with (first | (go_at_call 35; (with_reducible refine a0.mono ?_); rintro e wn ⟨rfl, hb⟩))
    go_ret
    exact ⟨rfl, below_call hA hb⟩
  · go_enter Try.func22, Try.ntmps22
    go_wp2_with (first | (go_at_call 57; (with_reducible refine a1.mono ?_); rintro e wn ⟨rfl, hb⟩))
    go_ret
    exact ⟨rfl, below_call hA hb⟩
  · go_enter Try.func22, Try.ntmps22
    go_wp2_with (first | (go_at_call 55; (with_reducible refine a2.mono ?_); rintro e wn ⟨rfl, hb⟩))
    go_ret
    exact ⟨rfl, below_call hA hb⟩
  · go_enter Try.func22, Try.ntmps22
    go_wp2_with (first | (go_at_call 54; (with_reducible refine a3.mono ?_); rintro e wn ⟨rfl, hb⟩))
    go_ret
    exact ⟨rfl, below_call hA hb⟩
theorem nread (q : Option Addr) (k v n : Int) (w : World) (h : NoR q w) (hk : 0 ≤ k ∧ k < 5) : Calls Try.prog 31 #[.pointer q, .agg #[.int .i64 k, .int .i64 v, .int .i64 n]] w (RNo w) := by
  have hA : Below w.heap.size w (w.alloc (.cells #[.int .i64 k, .int .i64 v, .int .i64 n] 30)) := (Below.refl _ _).alloc (Nat.le_refl _) _
  have h1 := h.step hA
  have a0 := nget q _ h1
  have a1 := nrbits q n _ h1
  have a2 := nrgam q _ h1
  have a3 := nruna q n _ h1
  have a4 := nalign q _ h1
  rcases (show k = 0 ∨ k = 1 ∨ k = 2 ∨ k = 3 ∨ k = 4 by omega) with rfl | rfl | rfl | rfl | rfl
  · go_enter Try.func31, Try.ntmps31
    go_wp2_with (first | (go_at_call 34; (with_reducible refine a0.mono ?_); rintro e wn ⟨rfl, hb⟩))
    go_ret2
    exact ⟨rfl, below_call hA hb⟩
  · go_enter Try.func31, Try.ntmps31
    go_wp2_with (first | (go_at_call 56; (with_reducible refine a1.mono ?_); rintro e wn ⟨rfl, hb⟩))
    go_ret2
    exact ⟨rfl, below_call hA hb⟩
  · go_enter Try.func31, Try.ntmps31
    go_wp2_with (first | (go_at_call 64; (with_reducible refine a2.mono ?_); rintro e wn ⟨rfl, hb⟩))
    go_ret2
    exact ⟨rfl, below_call hA hb⟩
  · go_enter Try.func31, Try.ntmps31
    go_wp2_with (first | (go_at_call 65; (with_reducible refine a3.mono ?_); rintro e wn ⟨rfl, hb⟩))
    go_ret2
    exact ⟨rfl, below_call hA hb⟩
  · go_enter Try.func31, Try.ntmps31
    go_wp2_with (first | (go_at_call 33; (with_reducible refine a4.mono ?_); rintro e wn ⟨rfl, hb⟩))
    go_ret2
    exact ⟨rfl, below_call hA hb⟩
theorem and_m (x : Int) (q m : Nat) (hm : m = 2 ^ q) (hq : q ≤ 3) (c : Int) (hc : c = (m : Int) - 1) : bits .and .i64 x c = x % (m : Int) := by
  subst hc
  have hm2 : m = 1 ∨ m = 2 ∨ m = 4 ∨ m = 8 := by
    subst hm
    rcases (show q = 0 ∨ q = 1 ∨ q = 2 ∨ q = 3 by omega) with rfl | rfl | rfl | rfl <;> decide
  have h1 : (BitVec.ofInt 64 x &&& BitVec.ofInt 64 ((m : Int) - 1)).toNat = (x % 18446744073709551616).toNat % m := by
    have e : (((m : Int) - 1) % ((2 ^ 64 : Nat) : Int)).toNat = 2 ^ q - 1 := by rw [← hm]; omega
    rw [BitVec.toNat_and, BitVec.toNat_ofInt, BitVec.toNat_ofInt, e, Nat.and_two_pow_sub_one_eq_mod, ← hm]
    rfl
  show IntKind.i64.wrap ((BitVec.ofInt 64 x &&& BitVec.ofInt 64 ((m : Int) - 1)).toNat : Int) = _
  rw [h1]
  rcases hm2 with h | h | h | h <;> subst h <;> rw [IntWalk.i64_in _ (by omega)] <;> omega
/-- A call by value, opened. -/
theorem open_op {H : Type} {enc : TypeId × Value → H} {w : World} {r : Reach} {b0 base : Nat} {spare : Nat → Bool} {held : Bool} {v : Value} {d : DataW H} {p : List MemPlace}
    (hv : Value.okWide Try.prog w r b0 30 v) (h : DataW.Trod enc Try.prog w base spare held 30 v d p) :
    ∃ a b c : Int, v = .agg #[.int .i64 a, .int .i64 b, .int .i64 c] ∧ (Lit.int .i64 a).wf = true := by
  obtain ⟨c0, c1, c2, y0, y1, y2, m, rfl, _, _, h0, h1, h2⟩ := open_agg3 Try.underlying30 (by kernel_rfl) cellsO hv h
  obtain ⟨a, e0, rfl, wa⟩ := DataW.trod_int Try.underlying3 h0
  obtain ⟨b, e1, rfl, _⟩ := DataW.trod_int Try.underlying3 h1
  obtain ⟨c, e2, rfl, _⟩ := DataW.trod_int Try.underlying3 h2
  simp at e0 e1 e2
  subst e0 e1 e2
  exact ⟨a, b, c, rfl, wa⟩
theorem op_open {w : World} {g : Nat} {x y z : Int} (h : Blk w g 30 #[.int .i64 x, .int .i64 y, .int .i64 z]) : w.cell? ⟨g, 0, none⟩ = some (.int .i64 x) ∧ w.cell? ⟨g, 1, none⟩ = some (.int .i64 y) ∧ w.cell? ⟨g, 2, none⟩ = some (.int .i64 z) := ⟨h.cell 0, h.cell 1, h.cell 2⟩
/-- No writer, or one of zeros; likewise a reader. -/
def Qw (q : Option Addr) (W : World) : Prop := q = none ∨ ∃ a, q = some ⟨a, 0, none⟩ ∧ Blk W a 51 #[.pointer none, .slice none 0 0, .int .i64 0, .int .i64 0]
def Qr (q : Option Addr) (W : World) : Prop := q = none ∨ ∃ a, q = some ⟨a, 0, none⟩ ∧ Blk W a 53 #[.pointer none, .slice none 0 0, .int .i64 0]
theorem Qw.no {q : Option Addr} {W : World} (h : Qw q W) : NoW q W := by
  rcases h with rfl | ⟨a, rfl, h⟩
  · exact noW_nil W
  · exact noW_zero (h.cell 0)
theorem Qr.no {q : Option Addr} {W : World} (h : Qr q W) : NoR q W := by
  rcases h with rfl | ⟨a, rfl, h⟩
  · exact noR_nil W
  · exact noR_zero (h.cell 0)
theorem Qw.step {q : Option Addr} {W W1 : World} (h : Qw q W) (hb : Below W.heap.size W W1) : Qw q W1 := h.elim .inl fun ⟨a, e, h⟩ => .inr ⟨a, e, h.below hb⟩
theorem Qr.step {q : Option Addr} {W W1 : World} (h : Qr q W) (hb : Below W.heap.size W W1) : Qr q W1 := h.elim .inl fun ⟨a, e, h⟩ => .inr ⟨a, e, h.below hb⟩
theorem Qw.set {q : Option Addr} {W : World} {g i : Nat} {cs : Array Value} (h : Qw q W) (hg : Blk W g 30 cs) (u : Value) : Qw q (W.setCell ⟨g, i, none⟩ u) := h.elim .inl fun ⟨a, e, h⟩ => .inr ⟨a, e, h.far (p := ⟨g, i, none⟩) (h.ne hg (by decide)) u⟩
theorem Qr.set {q : Option Addr} {W : World} {g i : Nat} {cs : Array Value} (h : Qr q W) (hg : Blk W g 30 cs) (u : Value) : Qr q (W.setCell ⟨g, i, none⟩ u) := h.elim .inl fun ⟨a, e, h⟩ => .inr ⟨a, e, h.far (p := ⟨g, i, none⟩) (h.ne hg (by decide)) u⟩
structure Nb (w : World) (q r : Option Addr) (g0 g h : Nat) (k k1 k2 v n : Int) (W : World) : Prop where
  below : Below w.heap.size w W
  nw : Qw q W
  nr : Qr r W
  oo : Blk W g0 30 #[.int .i64 k, .int .i64 v, .int .i64 n]
  og : Blk W g 30 #[.int .i64 k1, .int .i64 v, .int .i64 n]
  oh : Blk W h 30 #[.int .i64 k2, .int .i64 v, .int .i64 n]
  ne : g ≠ h
  ng : g0 ≠ g
  nh : g0 ≠ h
  gg : w.heap.size ≤ g
  gh : w.heap.size ≤ h
section
variable {w W0 : World} {q r : Option Addr} {g0 : Nat} {k v n : Int}
theorem nb_1 (B0 : Below w.heap.size w W0) (NW : Qw q W0) (NR : Qr r W0) (HO : Blk W0 g0 30 #[.int .i64 k, .int .i64 v, .int .i64 n]) :
    Nb w q r g0 W0.heap.size (W0.heap.size + 1) k k k v n ((W0.alloc (.cells #[.int .i64 k, .int .i64 v, .int .i64 n] 30)).alloc (.cells #[.int .i64 k, .int .i64 v, .int .i64 n] 30)).drew := by
  have hb : Below W0.heap.size W0 ((W0.alloc (.cells #[.int .i64 k, .int .i64 v, .int .i64 n] 30)).alloc (.cells #[.int .i64 k, .int .i64 v, .int .i64 n] 30)).drew := (below_alloc (below_alloc (Below.refl _ _) _) _).drew
  have hlt := HO.lt
  have hs := B0.size
  refine ⟨below_call B0 hb, NW.step hb, NR.step hb, HO.below hb, ((Blk.new W0 30 _).alloc _).drew, ?_, by omega, by omega, by omega, hs, by omega⟩
  have := Blk.new (W0.alloc (.cells #[.int .i64 k, .int .i64 v, .int .i64 n] 30)) 30 #[.int .i64 k, .int .i64 v, .int .i64 n]
  have e : (W0.alloc (.cells #[.int .i64 k, .int .i64 v, .int .i64 n] 30)).heap.size = W0.heap.size + 1 := by simp
  rw [e] at this
  exact this.drew
theorem Nb.swap {k1 k2 : Int} {g h : Nat} {W : World} (x : Nb w q r g0 g h k k1 k2 v n W) : Nb w q r g0 h g k k2 k1 v n W := ⟨x.below, x.nw, x.nr, x.oo, x.oh, x.og, x.ne.symm, x.nh, x.ng, x.gh, x.gg⟩
theorem Nb.setg {k1 k2 : Int} {g h : Nat} {W : World} (x : Nb w q r g0 g h k k1 k2 v n W) (u : Int) : Nb w q r g0 g h k u k2 v n (W.setCell ⟨g, 0, none⟩ (.int .i64 u)) :=
  ⟨x.below.setCell x.gg _, x.nw.set x.og _, x.nr.set x.og _, x.oo.far x.ng _, x.og.set 0 _, x.oh.far (fun e => x.ne e.symm) _, x.ne, x.ng, x.nh, x.gg, x.gh⟩
theorem Nb.drew {k1 k2 : Int} {g h : Nat} {W : World} (x : Nb w q r g0 g h k k1 k2 v n W) : Nb w q r g0 g h k k1 k2 v n W.drew :=
  ⟨x.below.drew, x.nw.step (Below.refl _ _).drew, x.nr.step (Below.refl _ _).drew, x.oo, x.og, x.oh, x.ne, x.ng, x.nh, x.gg, x.gh⟩
theorem Nb.step {k1 k2 : Int} {g h : Nat} {W W1 : World} (x : Nb w q r g0 g h k k1 k2 v n W) (hb : Below W.heap.size W W1) : Nb w q r g0 g h k k1 k2 v n W1 :=
  ⟨below_call x.below hb, x.nw.step hb, x.nr.step hb, x.oo.below hb, x.og.below hb, x.oh.below hb, x.ne, x.ng, x.nh, x.gg, x.gh⟩
end
end Go.Proofs.Ytdhjmbjpigiadaa
