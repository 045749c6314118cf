/-
  Layer 27: what Append gives; copy into a block of bytes.
-/
import Derived.Test.YtpnnmibdboelpaaCf
set_option maxRecDepth 100000
namespace Go.Proofs.Ytpnnmibdboelpaa
open Go.RowKit

theorem sz8 : (Try.prog.info? 5).map (·.size) = some 1 := by kernel_rfl
def lay (l : List Int) (off : Nat) (cs : List Int) : List Int := l.take off ++ (cs ++ l.drop (off + cs.length))
theorem lay_len (l : List Int) (off : Nat) (cs : List Int) (h : off + cs.length ≤ l.length) : (lay l off cs).length = l.length := by simp [lay]; omega
theorem lay_at (A X B cs : List Int) (h : X.length = cs.length) : lay (A ++ (X ++ B)) A.length cs = A ++ (cs ++ B) := by
  unfold lay
  have e : (A ++ (X ++ B)).drop (A.length + cs.length) = B := by rw [← h, ← List.append_assoc, ← List.length_append, List.drop_left]
  rw [List.take_left, e]
theorem wpCopy {ops : Array Oper} {rest : List Oper} {o : Oper} {a : Act} {Q : Exit → Act → World → Prop} {w : World} (hgd : o.guard = none) (d s : Operand)
    (ho : o.op = .call { callee := .builtin .copy, args := #[d, s], argTypes := #[22, 22] })
    (dp sa : Option Addr) (dLen dCap c : Nat) (cs : List Int) (hd : a.eval d = .slice dp dLen dCap) (hs : a.eval s = .slice sa cs.length c) (hle : cs.length ≤ dLen)
    (g off : Nat) (l : List Int) (hg : Blk w g 5 (blkB l)) (hpos : 0 < cs.length → dp = some ⟨g, off, none⟩) (hH : HoldsB w sa cs) (hfit : off + cs.length ≤ l.length) (B : Nat) (w0 : World) (hb : Below B w0 w) (hBg : B ≤ g)
    (h : ∀ w', Hid (Blk w' g 5 (blkB (lay l off cs))) → Hid (Below B w0 w') → wpList Try.prog ops Q rest (a.put o.dst (.int .i64 (cs.length : Int))) w') :
    wpList Try.prog ops Q (o :: rest) a w := by
  refine wpList_copy_splice hgd d s 22 22 ho 5 Try.underlying22 sz8 dp sa dLen dCap cs.length c hd hs g off (l.map (Value.int .u8)) 5 hg (cs.map (Value.int .u8)) ?_ ?_ (by simpa using hfit) (one8 cs) B w0 hb hBg ?_
  · rw [List.length_map]; show _ = min _ _; omega
  · intro hp
    rw [List.length_map] at hp
    refine ⟨hpos hp, ?_⟩
    cases sa with
    | none => have := holdsB_none hH; subst this; simp at hp
    | some ad => exact ⟨ad, rfl, holdsB_list hH⟩
  · intro w' hh hb'
    have e : goInt (cs.map (Value.int .u8)).length = .int .i64 (cs.length : Int) := by rw [List.length_map]; rfl
    rw [e]
    refine h w' (Lib.hid ?_) (Lib.hid hb')
    have := hh.out
    unfold Blk
    rw [this]
    congr 2
    simp [blkB, splice, lay, List.map_take, List.map_drop]
theorem drewN_below' (w : World) (n : Nat) : Below w.heap.size w (w.drewN n) := by
  induction n with
  | zero => exact Below.refl _ _
  | succ n ih => exact ih.drew
/-- A packet without its synchronization marker. -/
def rst (hd bd : List Int) (fe : Bool) : List Int := hd ++ ((if fe = true then Mk.dg 65460 2 else []) ++ bd)
def pka (bs hd bd : List Int) (sy fe : Bool) (q : Int) : List Int := if seqB q = true then bs ++ ((if sy = true then mkB q ((rst hd bd fe).length : Nat) (Ck.crc (rst hd bd fe)) else []) ++ rst hd bd fe) else []
def pkE (q : Int) : Int := if seqB q = true then 0 else 2
/-- A packet as an argument. -/
def pkV (i j k l : Int) (hd bd : List Int) (sh sb : Option Addr) (mh mb : Nat) : Array Value := #[.int .i64 i, .int .i64 j, .int .i64 k, .int .i64 l, .slice sh hd.length mh, .slice sb bd.length mb]
structure PkA (w : World) (bs hd bd : List Int) (s sh sb : Option Addr) (m mh mb : Nat) : Prop where
  b : HoldsB w s bs
  h : HoldsB w sh hd
  d : HoldsB w sb bd
  nb : s = none → bs = [] ∧ m = 0
  nh : sh = none → hd = [] ∧ mh = 0
  nd : sb = none → bd = [] ∧ mb = 0
  yb : Mk.bytes bs
  yh : Mk.bytes hd
  yd : Mk.bytes bd
  lb : bs.length ≤ 1000
  lp : hd.length + bd.length ≤ 2000
theorem PkA.call {w w1 : World} {bs hd bd : List Int} {s sh sb : Option Addr} {m mh mb : Nat} (h : PkA w bs hd bd s sh sb m mh mb) (hb : Below w.heap.size w w1) : PkA w1 bs hd bd s sh sb m mh mb :=
  ⟨h.b.call hb, h.h.call hb, h.d.call hb, h.nb, h.nh, h.nd, h.yb, h.yh, h.yd, h.lb, h.lp⟩
theorem rst_bytes {hd bd : List Int} (h : Mk.bytes hd) (h2 : Mk.bytes bd) (fe : Bool) : Mk.bytes (rst hd bd fe) := by
  unfold rst
  refine Mk.bytes_app h (Mk.bytes_app ?_ h2)
  split
  · exact Mk.dg_bytes _ _
  · intro x hx; simp at hx
set_option maxHeartbeats 2000000 in
theorem append_no (i j k l : Int) (bs hd bd : List Int) (s sh sb : Option Addr) (m mh mb : Nat) (sy fe : Bool) (q : Int) (w : World) (hP : PkA w bs hd bd s sh sb m mh mb) (hq : seqB q = false) :
    Calls Try.prog 11 #[.slice s bs.length m, .agg (pkV i j k l hd bd sh sb mh mb), .bool sy, .bool fe, .int .i64 q] w (GivesBE [] 2 w) := by
  unfold pkV
  obtain ⟨W0, hW0⟩ : ∃ W0, W0 = w.alloc (.cells #[.int .i64 i, .int .i64 j, .int .i64 k, .int .i64 l, .slice sh hd.length mh, .slice sb bd.length mb] 29) := ⟨_, rfl⟩
  have HB := Lib.hid (show Below w.heap.size w W0 by rw [hW0]; exact (Below.refl _ _).alloc (Nat.le_refl _) _)
  have HK := Lib.hid (show Blk W0 w.heap.size 29 #[.int .i64 i, .int .i64 j, .int .i64 k, .int .i64 l, .slice sh hd.length mh, .slice sb bd.length mb] by rw [hW0]; exact Blk.new _ _ _)
  have HW0 := Lib.hid hW0
  have c4 := HK.out.cell 4
  have c5 := HK.out.cell 5
  have hlp := hP.lp
  have ks := fun W => isSeq_c q W
  rw [hq] at ks
  have KS := Lib.hid ks
  clear hP hW0 ks
  have w1 : IntKind.i64.wrap ((hd.length : Int) + (bd.length : Int)) = (hd.length : Int) + bd.length := IntWalk.i64_in _ (by omega)
  go_enter Try.func11, Try.ntmps11
  go_upto_region 1 with fail
  rw [← HW0.out]
  go_quiet (fail)
  go_wp2_with (first | (go_at_call 20; (with_reducible refine (KS.out _).mono ?_); rintro e wn ⟨rfl, rfl⟩) | fail)
  go_ret2
  exact ⟨_, rfl, World.ownsRow_nil _ _ _ _, by first | exact HB.out | exact HB.out.trans ((drewN_below' W0 nq).mono HB.out.size)⟩
end Go.Proofs.Ytpnnmibdboelpaa
