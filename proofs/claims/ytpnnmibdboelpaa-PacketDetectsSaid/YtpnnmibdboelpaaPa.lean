/-
  Rows of bytes of a call's own, parts of slices of bytes: what the texts of layer 28 share with layer 27.
-/
import Derived.Test.YtpnnmibdboelpaaMb
set_option maxRecDepth 100000
namespace Go.Proofs.Ytpnnmibdboelpaa
open Go.RowKit

theorem or_low64 (v x : Int) (h0 : 0 ≤ v) (h1 : v < 36028797018963968) (hx : 0 ≤ x ∧ x ≤ 255) : bits .or .i64 (v * 256) x = v * 256 + x := by
  obtain ⟨k, rfl⟩ : ∃ k : Nat, v = k := ⟨v.toNat, by omega⟩
  obtain ⟨c, rfl⟩ : ∃ c : Nat, x = c := ⟨x.toNat, by omega⟩
  have h2 : (BitVec.ofInt 64 ((k : Int) * 256) ||| BitVec.ofInt 64 (c : Int)).toNat = 256 * k + c := by
    rw [BitVec.toNat_or, BitVec.toNat_ofInt, BitVec.toNat_ofInt]
    have e1 : ((k : Int) * 256 % ((2 ^ 64 : Nat) : Int)).toNat = 2 ^ 8 * k := by omega
    have e2 : ((c : Int) % ((2 ^ 64 : Nat) : Int)).toNat = c := by omega
    rw [e1, e2, ← Nat.two_pow_add_eq_or_of_lt (by omega) k]
  show IntKind.i64.wrap ((BitVec.ofInt 64 ((k : Int) * 256) ||| BitVec.ofInt 64 (c : Int)).toNat : Int) = _
  rw [h2, IntWalk.i64_in _ (by omega)]
  omega
/-- The digits, the last k of them written. -/
def fillD (v : Int) (n k : Nat) : List Int := List.replicate (n - k) 0 ++ (Mk.dg v n).drop (n - k)
theorem fillD_len (v : Int) (n k : Nat) (h : k ≤ n) : (fillD v n k).length = n := by
  rw [fillD, List.length_append, List.length_replicate, List.length_drop, Mk.dg_len]
  omega
theorem fillD_all (v : Int) (n : Nat) : fillD v n n = Mk.dg v n := by simp [fillD]
theorem fillD_zero (v : Int) (n : Nat) : fillD v n 0 = List.replicate n 0 := by
  have : (Mk.dg v n).drop n = [] := by rw [List.drop_eq_nil_iff, Mk.dg_len]; omega
  simp [fillD, this]
theorem fillD_next (v : Int) (n k : Nat) (h : k < n) : (fillD v n k).set (n - 1 - k) (v / 256 ^ k % 256) = fillD v n (k + 1) := by
  apply List.ext_getElem?
  intro i
  rw [List.getElem?_set]
  have hg := fun j (hj : j < n) => Mk.dg_get v n j hj
  unfold fillD
  by_cases h1 : n - 1 - k = i
  · subst h1
    have e : n - 1 - (n - 1 - k) = k := by omega
    rw [if_pos rfl, if_pos (by simp [Mk.dg_len]; omega), List.getElem?_append_right (by simp; omega), List.getElem?_drop, hg _ (by simp only [List.length_replicate]; omega)]
    simp only [List.length_replicate]
    rw [show n - 1 - (n - (k + 1) + (n - 1 - k - (n - (k + 1)))) = k by omega]
  · rw [if_neg h1]
    by_cases h2 : i < n - (k + 1)
    · rw [List.getElem?_append_left (by simp; omega), List.getElem?_append_left (by simp; omega)]
      rw [List.getElem?_replicate, List.getElem?_replicate, if_pos (by omega), if_pos (by omega)]
    · by_cases h3 : i < n
      · rw [List.getElem?_append_right (by simp; omega), List.getElem?_append_right (by simp; omega), List.getElem?_drop, List.getElem?_drop]
        simp only [List.length_replicate]
        congr 1; omega
      · rw [List.getElem?_eq_none (by simp [Mk.dg_len]; omega), List.getElem?_eq_none (by simp [Mk.dg_len]; omega)]
theorem num_step {bs : List Int} {a k n : Nat} (hk : k < n) (ha : a + n ≤ bs.length) : Mk.num (((bs.drop a).take n).take (k + 1)) = Mk.num (((bs.drop a).take n).take k) * 256 + bs.getD (a + k) 0 := by
  rw [List.take_succ_eq_append_getElem (by simp; omega), Mk.num_snoc]
  congr 1
  rw [List.getElem_take, List.getElem_drop, List.getD_eq_getElem?_getD, List.getElem?_eq_getElem (by omega)]
  rfl
def GivesN (x y : Int) (w : World) (e : Ending) (w' : World) : Prop := e = .returned (.tuple #[.int .i64 x, .int .i64 y]) ∧ w = w'
def blkB (l : List Int) : Array Value := (l.map (Value.int .u8)).toArray
theorem blkB_set (l : List Int) (k : Nat) (x : Int) : (blkB l).setIfInBounds k (.int .u8 x) = blkB (l.set k x) := by simp [blkB, List.map_set]
theorem made8 (n : Nat) : madeCells #[.int .u8 0] n = blkB (List.replicate n 0) := by
  apply Array.ext
  · simp [madeCells, blkB]
  · intro i h1 h2
    simp [madeCells, blkB, Nat.mod_one]
def zU (n : Nat) : Obj := .cells (madeCells #[.int .u8 0] n) 5
theorem mkU (n : Nat) (hn : n ≤ 1000000000) (W : World) : (Instr.makeSlice 22 (.int .i64 (n : Int)) (.int .i64 (n : Int))).run Try.prog W = .ok (.slice (some ⟨W.heap.size, 0, none⟩) n n) (W.alloc (zU n)) := by
  obtain ⟨i0, hi, hz0, hz1, hz2⟩ := info_parts info8
  have hr := run_make (P := Try.prog) W 22 5 i0 _ Try.underlying22 hi hz0 .i64 .i64 n n (by omega) (Int.le_refl _) (by rw [hz2]; omega) (by omega)
  rw [hz1, Int.toNat_natCast, Nat.mul_one] at hr
  exact hr
theorem zU_blk (w : World) (n : Nat) : Blk (w.alloc (zU n)) w.heap.size 5 (blkB (List.replicate n 0)) := by
  rw [← made8]; exact Blk.new _ _ _
theorem blk_own {w : World} {B g : Nat} {l : List Int} (h : Blk w g 5 (blkB l)) (hB : B ≤ g) (hl : l.length ≤ maxLen) : w.ownsRow B 5 1 (.slice (some ⟨g, 0, none⟩) l.length l.length) l.length (l.map (Value.int .u8)) := by
  refine ⟨by simp, .inr ⟨g, l.length, blkB l, rfl, hB, h, Nat.le_refl _, hl, by simp [blkB], ?_⟩⟩
  rw [Nat.mul_one, blkB, List.take_of_length_le (by simp)]
theorem pow_shr (k : Nat) : (256 : Int) ^ k = 2 ^ (8 * k) := by rw [Int.pow_mul]; rfl
/-- Bytes of the call's own, and an error. -/
def GivesBE (bs : List Int) (er : Int) (w : World) (e : Ending) (w' : World) : Prop := ∃ v, e = .returned (.tuple #[v, .int .i64 er]) ∧ w'.ownsRow w.heap.size 5 1 v bs.length (bs.map (Value.int .u8)) ∧ Below w.heap.size w w'
theorem gives_no (er : Int) (w : World) : GivesBE [] er w (.returned (.tuple #[.slice none 0 0, .int .i64 er])) w := ⟨_, rfl, World.ownsRow_nil _ _ _ _, Below.refl _ _⟩
theorem own_up {w w0 : World} {base : Nat} {v : Value} {n : Nat} {xs : List Value} (h : w.ownsRow w0.heap.size 5 1 v n xs) (hb : base ≤ w0.heap.size) : w.ownsRow base 5 1 v n xs := by
  refine ⟨h.1, ?_⟩
  rcases h.2 with q | ⟨g, cap, cur, rfl, h1, h2⟩
  · exact .inl q
  · exact .inr ⟨g, cap, cur, rfl, by omega, h2⟩
theorem pow256 (n : Nat) : (256 : Int) ^ n = 2 ^ (8 * n) := pow_shr n
/-- What append to a row of bytes of the call's own leaves. -/
structure Rw (B : Nat) (W : World) (s : Option Addr) (m : Nat) (L : List Int) (w' : World) : Prop where
  own : w'.ownsRow B 5 1 (.slice s L.length m) L.length (L.map (Value.int .u8))
  below : Below B W w'
  le : B ≤ W.heap.size
theorem Rw.holds {B : Nat} {W w' : World} {s : Option Addr} {m : Nat} {L : List Int} (h : Rw B W s m L w') : HoldsB w' s L := by
  obtain ⟨_, s', m', e, hH, _⟩ := HoldsB.of_own h.own
  injection e with e1 e2 e3
  subst e1
  exact hH
theorem Rw.new (w : World) (B : Nat) (hB : B ≤ w.heap.size) : Rw B w (some ⟨w.heap.size, 0, none⟩) 0 [] (w.alloc (.cells #[] 5)) :=
  ⟨by simpa using World.ownsRow_made (e := 5) (size := 1) w #[] 0 hB (by unfold maxLen; omega) (by simp), (Below.refl _ _).alloc hB _, hB⟩
theorem Rw.alloc {B : Nat} {W w' : World} {s : Option Addr} {m : Nat} {L : List Int} (h : Rw B W s m L w') (X : Obj) : Rw B W s m L (w'.alloc X) :=
  ⟨own_below h.own ((Below.refl _ _).alloc (Nat.le_refl _) X), h.below.alloc (Nat.le_trans h.le h.below.size) X, h.le⟩
theorem Rw.call {B : Nat} {W w' w2 : World} {s : Option Addr} {m : Nat} {L : List Int} (h : Rw B W s m L w') (hb : Below w'.heap.size w' w2) : Rw B W s m L w2 :=
  ⟨own_below h.own hb, bcall h.below hb (Nat.le_trans h.le h.below.size), h.le⟩
theorem wpApp {ops : Array Oper} {rest : List Oper} {o : Oper} {a : Act} {Q : Exit → Act → World → Prop} {w W : World} (hgd : o.guard = none) (s x : Operand)
    (ho : o.op = .call { callee := .builtin .append, args := #[s, x], argTypes := #[22, 22] })
    (B : Nat) (l l2 : List Int) (va : Option Addr) (vm : Nat) (hs : a.eval s = .slice va l.length vm) (hr : Rw B W va vm l w)
    (sa : Option Addr) (c : Nat) (hx : a.eval x = .slice sa l2.length c) (hH : HoldsB w sa l2) (hn : sa = none → l2 = [] ∧ c = 0) (hlen : l.length + l2.length ≤ 1000000000)
    (h : ∀ (L : List Int) (s' : Option Addr) (m' : Nat) (w' : World), Hid (L = l ++ l2) → Hid (Rw B W s' m' L w') → wpList Try.prog ops Q rest (a.put o.dst (.slice s' L.length m')) w') :
    wpList Try.prog ops Q (o :: rest) a w := by
  obtain ⟨i0, hi, hz0, hz1, hz2⟩ := info_parts info8
  cases sa with
  | none =>
    obtain ⟨rfl, rfl⟩ := hn rfl
    refine wpList_append_own_none hgd s x 22 ho B 5 i0 1 Try.underlying22 hi _ _ _ hs hr.own (by simpa using hx) ?_
    exact h l va vm w (by simp [Hid]) hr
  | some p =>
    refine wpList_append_own _ hgd s x 22 ho B 5 i0 (.int .u8 0) 1 1 Try.underlying22 hi hz0 hz1 hz2 rfl (by decide) _ _ _ hs hr.own p l2.length c (l2.map (Value.int .u8)) hx (by simp) (holdsB_list hH) (one8 l2) (by unfold maxLen; omega) (by omega) (Nat.le_trans hr.le hr.below.size) ?_
    intro v' w' hown hgrow _
    have h1 : w'.ownsRow B 5 1 v' (l ++ l2).length ((l ++ l2).map (Value.int .u8)) := by
      rw [List.length_append, List.map_append]; exact hown
    obtain ⟨_, s', m', rfl, _⟩ := HoldsB.of_own h1
    exact h (l ++ l2) s' m' w' (Lib.hid rfl) ⟨h1, hr.below.grown hgrow (Nat.le_trans hr.le hr.below.size) (fun k hk => (hr.own.lt k hk).1), hr.le⟩
theorem Rw.gives {B : Nat} {W w w' : World} {s : Option Addr} {m : Nat} {L : List Int} (h : Rw B W s m L w') (hb : Below w.heap.size w W) (hB : w.heap.size ≤ B) (er : Int) (e : Ending) (he : e = .returned (.tuple #[.slice s L.length m, .int .i64 er])) : GivesBE L er w e w' := by
  subst he
  refine ⟨_, rfl, ?_, hb.trans (h.below.mono hB)⟩
  refine ⟨h.own.1, ?_⟩
  rcases h.own.2 with q | ⟨g, cap, cur, q, h1, h2⟩
  · exact .inl q
  · exact .inr ⟨g, cap, cur, q, by omega, h2⟩
theorem new2 (w : World) (x y : Int) : HoldsB (w.alloc (.cells #[.int .u8 x, .int .u8 y] 5)) (some ⟨w.heap.size, 0, none⟩) [x, y] := holdsB_new w [x, y]
theorem new1 (w : World) (x : Int) : HoldsB (w.alloc (.cells #[.int .u8 x] 5)) (some ⟨w.heap.size, 0, none⟩) [x] := holdsB_new w [x]
theorem Blk.two {w : World} {g : Nat} {t : TypeId} {a b : Value} (h : Blk w g t #[a, b]) : w.cell? ⟨g, 0, none⟩ = some a ∧ w.cell? ⟨g, 1, none⟩ = some b := ⟨h.cell 0, h.cell 1⟩
theorem Blk.set2 {w : World} {g : Nat} {t : TypeId} {a b : Value} (h : Blk w g t #[a, b]) (x y : Value) : Blk ((w.setCell ⟨g, 0, none⟩ x).setCell ⟨g, 1, none⟩ y) g t #[x, y] := (h.set 0 x).set 1 y
theorem HoldsB.part {w : World} {b off : Nat} {bs : List Int} (h : HoldsB w (some ⟨b, off, none⟩) bs) (k n : Nat) : HoldsB w (some ⟨b, off + k, none⟩) ((bs.drop k).take n) := by
  rcases h with rfl | ⟨b', off', e, hr⟩
  · exact .inl (by simp)
  · simp at e
    obtain ⟨rfl, rfl⟩ := e
    refine .inr ⟨b, off + k, rfl, fun j hj => ?_⟩
    simp at hj
    rw [Nat.add_assoc, hr (k + j) (by omega)]
    simp
theorem holdsB_none {w : World} {bs : List Int} (h : HoldsB w none bs) : bs = [] := by
  rcases h with h | ⟨b, off, e, _⟩
  · exact h
  · simp at e
theorem holds_own {w : World} {B n : Nat} {s : Option Addr} {m : Nat} {l : List Int} (h : w.ownsRow B 5 1 (.slice s n m) l.length (l.map (Value.int .u8))) : HoldsB w s l ∧ n = l.length ∧ l.length ≤ m ∧ m ≤ maxLen ∧ (s = none → l = [] ∧ m = 0) := by
  obtain ⟨_, s', m', e, hH, hm, hn⟩ := HoldsB.of_own h
  injection e with e1 e2 e3
  subst e1
  subst e3
  exact ⟨hH, e2, hm.1, hm.2, hn⟩
theorem bytes_of (l : List Int) (h : l.all (fun x => decide (0 ≤ x) && decide (x ≤ 255)) = true) : Mk.bytes l := by
  intro x hx
  have := List.all_eq_true.1 h x hx
  simpa using this
end Go.Proofs.Ytpnnmibdboelpaa
