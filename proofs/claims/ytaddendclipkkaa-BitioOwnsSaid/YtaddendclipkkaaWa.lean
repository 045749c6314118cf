/-
  The code's writer of layer 9 in memory; made, stuffed, isDigits, isUnary, add.
-/
import Derived.Test.YtaddendclipkkaaObj
import Derived.Test.YtaddendclipkkaaBi
import Derived.Laws.AppendOwn
import Derived.LaidEqlPtr
import Derived.Lib.Hide
import Derived.Laws.BitsAllLaws
set_option maxRecDepth 100000
namespace Go.Proofs.Ytaddendclipkkaa
open Go.RowKit

/-- Bytes behind a slice's address. -/
def HoldsB (w : World) (a : Option Addr) (l : List Int) : Prop := l = [] ∨ ∃ b off, a = some ⟨b, off, none⟩ ∧ ∀ k (_ : k < l.length), w.cell? ⟨b, off + k, none⟩ = some (.int .u8 l[k])
theorem HoldsB.below {B : Nat} {w w1 : World} {a : Option Addr} {l : List Int} (h : HoldsB w a l) (hb : Below B w w1) (hB : w.heap.size ≤ B) : HoldsB w1 a l := by
  rcases h with rfl | ⟨b, off, rfl, hr⟩
  · exact .inl rfl
  · exact .inr ⟨b, off, rfl, fun k hk => (hb.cell (p := ⟨b, _, none⟩) (Nat.lt_of_lt_of_le (cell_lt (hr k hk)) hB)).trans (hr k hk)⟩
theorem HoldsB.call {w w1 : World} {s : Option Addr} {l : List Int} (h : HoldsB w s l) (hb : Below w.heap.size w w1) : HoldsB w1 s l := h.below hb (Nat.le_refl _)
theorem HoldsB.of_own {w : World} {base : Nat} {v : Value} {n : Nat} {l : List Int} (h : w.ownsRow base 5 1 v n (l.map (Value.int .u8))) :
    n = l.length ∧ ∃ s m, v = .slice s l.length m ∧ HoldsB w s l ∧ (l.length ≤ m ∧ m ≤ maxLen) ∧ (s = none → l = [] ∧ m = 0) := by
  obtain ⟨h1, h2⟩ := h
  have hn : n = l.length := by simpa using h1.symm
  subst hn
  refine ⟨rfl, ?_⟩
  rcases h2 with ⟨rfl, h0⟩ | ⟨g, cap, cur, rfl, hb, hg, hc, hm, hs, ht⟩
  · obtain rfl := List.length_eq_zero_iff.1 h0
    exact ⟨none, 0, rfl, .inl rfl, ⟨Nat.le_refl _, Nat.zero_le _⟩, fun _ => ⟨rfl, rfl⟩⟩
  · refine ⟨_, cap, rfl, .inr ⟨g, 0, rfl, fun k hk => ?_⟩, ⟨hc, hm⟩, fun h => by simp at h⟩
    have e : cur[k]? = some (.int .u8 l[k]) := by
      have h3 : (cur.toList.take (l.length * 1))[k]? = (l.map (Value.int .u8))[k]? := by rw [ht]
      rw [List.getElem?_take_of_lt (by omega)] at h3
      rw [Array.getElem?_toList] at h3
      rw [h3]; simp [hk]
    simp [World.cell?, hg, e]
theorem info8 : (Try.prog.info? 5).map (fun i => (i.zero, i.size, i.bytes)) = some (some (.int .u8 0), 1, 1) := by kernel_rfl
def sfB (bs : List Int) : Bool := decide (Bi.lst bs = 255)
theorem stuffed_n (m : Nat) (w : World) (s : Option Addr) : Calls Try.prog 49 #[.slice s 0 m] w fun e w' => e = .returned (.bool false) ∧ w = w' := by
  go_enter Try.func49, Try.ntmps49
  go_wp2_with fail
  go_ret
  exact ⟨rfl, rfl⟩
theorem stuffed_y (n m : Nat) (w : World) (b off : Nat) (x : Int) (hc : w.cell? ⟨b, off + n, none⟩ = some (.int .u8 x)) (hn : n + 1 ≤ 1000000000) :
    Calls Try.prog 49 #[.slice (some ⟨b, off, none⟩) (n + 1) m] w fun e w' => e = .returned (.bool (decide (x = 255))) ∧ w = w' := by
  go_enter Try.func49, Try.ntmps49
  go_wp2_with fail
  go_ret
  exact ⟨rfl, rfl⟩
theorem HoldsB.last {w : World} {s : Option Addr} {bs : List Int} (h : HoldsB w s bs) {n : Nat} (hn : bs.length = n + 1) : ∃ b off, s = some ⟨b, off, none⟩ ∧ w.cell? ⟨b, off + n, none⟩ = some (.int .u8 (Bi.lst bs)) := by
  rcases h with rfl | ⟨b, off, rfl, hr⟩
  · simp at hn
  · refine ⟨b, off, rfl, ?_⟩
    have := hr n (by omega)
    rw [this]
    simp [Bi.lst, List.getD_eq_getElem?_getD, hn]
theorem stuffed_c (bs : List Int) (s : Option Addr) (m : Nat) (w : World) (hH : HoldsB w s bs) (hl : bs.length ≤ 1000000000) :
    Calls Try.prog 49 #[.slice s bs.length m] w fun e w' => e = .returned (.bool (sfB bs)) ∧ w = w' := by
  rcases Nat.eq_zero_or_pos bs.length with h | h
  · obtain rfl := List.length_eq_zero_iff.1 h
    exact stuffed_n m w s
  · obtain ⟨n, hn⟩ : ∃ n, bs.length = n + 1 := ⟨bs.length - 1, by omega⟩
    obtain ⟨b, off, rfl, hc⟩ := hH.last hn
    rw [hn]
    exact stuffed_y n m w b off _ hc (by omega)
def dgB (n : Int) : Bool := decide (0 ≤ n ∧ n ≤ 32)
def unB (n : Int) : Bool := decide (0 ≤ n ∧ n ≤ 65535)
theorem isD_c (n : Int) (w : World) : Calls Try.prog 75 #[.int .i64 n] w fun e w' => e = .returned (.bool (dgB n)) ∧ w = w' := by
  by_cases h : 0 ≤ n
  · go_enter Try.func75, Try.ntmps75
    go_wp2_with fail
    go_ret
    exact ⟨ret_bool (by simp [dgB, h]), rfl⟩
  · have h1 : n < 0 := by omega
    clear h
    go_enter Try.func75, Try.ntmps75
    go_wp2_with fail
    go_ret
    exact ⟨ret_bool (by simp [dgB]; omega), rfl⟩
theorem isU_c (n : Int) (w : World) : Calls Try.prog 72 #[.int .i64 n] w fun e w' => e = .returned (.bool (unB n)) ∧ w = w' := by
  by_cases h : 0 ≤ n
  · go_enter Try.func72, Try.ntmps72
    go_wp2_with fail
    go_ret
    exact ⟨ret_bool (by simp [unB, h]), rfl⟩
  · have h1 : n < 0 := by omega
    clear h
    go_enter Try.func72, Try.ntmps72
    go_wp2_with fail
    go_ret
    exact ⟨ret_bool (by simp [unB]; omega), rfl⟩
/-- The code's writer at a block: its row's value, its bytes, the free bits of the last one, the number of bits. -/
structure WrC (w : World) (B a : Nat) (sv : Value) (bs : List Int) (fr cnt : Nat) : Prop where
  ge : B ≤ a
  blk : Blk w a 88 #[.pointer (some ⟨a, 0, none⟩), sv, .int .i64 fr, .int .i64 cnt]
  own : w.ownsRow B 5 1 sv bs.length (bs.map (Value.int .u8))
theorem WrC.open {w : World} {B a : Nat} {sv : Value} {bs : List Int} {fr cnt : Nat} (h : WrC w B a sv bs fr cnt) :
    w.cell? ⟨a, 0, none⟩ = some (.pointer (some ⟨a, 0, none⟩)) ∧ w.cell? ⟨a, 1, none⟩ = some sv ∧ w.cell? ⟨a, 2, none⟩ = some (.int .i64 fr) ∧ w.cell? ⟨a, 3, none⟩ = some (.int .i64 cnt) :=
  ⟨h.blk.cell 0, h.blk.cell 1, h.blk.cell 2, h.blk.cell 3⟩
theorem ptrW (w : World) (a : Addr) : (binOp .eql 33 (.pointer (some a)) (.pointer (some a))).run Try.prog w = .ok (.bool true) w := by
  obtain ⟨j, hj⟩ : ∃ j, Try.prog.info? 88 = some j := ⟨_, rfl⟩
  exact run_eql_ptr_same w a (te := 88) Try.underlying33 hj
theorem ptrWz (w : World) (a : Addr) : (binOp .eql 33 (.pointer none) (.pointer (some a))).run Try.prog w = .ok (.bool false) w := by
  have h : ∀ d : Nat, (Op.equalIn (d + 1) 33 (.pointer none) (.pointer (some a))).run Try.prog w = .ok false w := fun d => by
    simp [Op.equalIn, run_underlying (P := Try.prog) (t := 33) Try.underlying33]
  simp only [binOp]
  simp [Op.equal, Op.maxDepth, h 9999]
theorem made_y (a : Nat) (w : World) (h0 : w.cell? ⟨a, 0, none⟩ = some (.pointer (some ⟨a, 0, none⟩))) : Calls Try.prog 56 #[.pointer (some ⟨a, 0, none⟩)] w fun e w' => e = .returned (.bool true) ∧ w = w' := by
  have hp := fun W => ptrW W ⟨a, 0, none⟩
  go_enter Try.func56, Try.ntmps56
  go_wp2_with fail
  go_ret
  exact ⟨rfl, rfl⟩
theorem made_n0 (w : World) : Calls Try.prog 56 #[.pointer none] w fun e w' => e = .returned (.bool false) ∧ w = w' := by
  go_enter Try.func56, Try.ntmps56
  go_wp2_with fail
  go_ret
  exact ⟨rfl, rfl⟩
theorem made_z (a : Nat) (w : World) (h0 : w.cell? ⟨a, 0, none⟩ = some (.pointer none)) : Calls Try.prog 56 #[.pointer (some ⟨a, 0, none⟩)] w fun e w' => e = .returned (.bool false) ∧ w = w' := by
  have hp := fun W => ptrWz W ⟨a, 0, none⟩
  go_enter Try.func56, Try.ntmps56
  go_wp2_with fail
  go_ret
  exact ⟨rfl, rfl⟩
theorem own_put {w : World} {base n g m : Nat} {e : TypeId} {xs : List Value} (h : w.ownsRow base e 1 (.slice (some ⟨g, 0, none⟩) n m) n xs) (k : Nat) (u : Value) : (w.setCell ⟨g, k, none⟩ u).ownsRow base e 1 (.slice (some ⟨g, 0, none⟩) n m) n (xs.set k u) := by
  obtain ⟨h1, h2⟩ := h
  refine ⟨by simpa using h1, .inr ?_⟩
  rcases h2 with ⟨h, _⟩ | ⟨g', cap, cur, he, hb, hg, hc, hm, hs, ht⟩
  · simp at h
  · simp at he
    obtain ⟨rfl, rfl⟩ := he
    refine ⟨g, m, cur.setIfInBounds k u, rfl, hb, ?_, hc, hm, by simpa using hs, ?_⟩
    · simp [World.setCell, Array.getElem?_modify, hg]
    · rw [← ht]
      simp [List.take_set, Array.toList_setIfInBounds]
theorem own_at {w : World} {base n : Nat} {s : Option Addr} {m : Nat} {e : TypeId} {xs : List Value} (h : w.ownsRow base e 1 (.slice s n m) n xs) (k : Nat) (hk : k < n) : ∃ g, s = some ⟨g, 0, none⟩ ∧ w.cell? ⟨g, k, none⟩ = xs[k]? ∧ (∀ j, w.frozen? ⟨g, j, none⟩ = false) ∧ (∃ cs, Blk w g e cs) ∧ base ≤ g := by
  rcases h.2 with ⟨he, h0⟩ | ⟨g, cap, cur, he, hb, hg, hc, hm, hs, ht⟩
  · omega
  · simp at he
    obtain ⟨rfl, rfl⟩ := he
    refine ⟨g, rfl, ?_, fun j => by simp [World.frozen?, hg], ⟨cur, hg⟩, hb⟩
    rw [← ht, List.getElem?_take_of_lt (by omega), Array.getElem?_toList]
    simp [World.cell?, hg]
theorem own_far {w : World} {base n : Nat} {e : TypeId} {v : Value} {xs : List Value} (h : w.ownsRow base e 1 v n xs) (p : Addr) (u : Value) (hp : v.ownBlock ≠ some p.block) : (w.setCell p u).ownsRow base e 1 v n xs := by
  obtain ⟨h1, h2⟩ := h
  refine ⟨h1, ?_⟩
  rcases h2 with h | ⟨g, cap, cur, rfl, h3, h4, h5⟩
  · exact .inl h
  · exact .inr ⟨g, cap, cur, rfl, h3, (Below.heap_setCell _ _ _ _ (fun e => hp (by simp [Value.ownBlock, e]))).trans h4, h5⟩
theorem or_pow (x f : Nat) (hx : x < 256) (hf : f ≤ 7) (hm : x % 2 ^ (f + 1) = 0) : x ||| 2 ^ f = x + 2 ^ f := by
  have key : ∀ f, f < 8 → ∀ x, x < 256 → x % 2 ^ (f + 1) = 0 → x ||| 2 ^ f = x + 2 ^ f := by decide +kernel
  exact key f (by omega) x hx hm
theorem or_u8 {x b : Int} {f : Nat} (h0 : 0 ≤ x ∧ x ≤ 255) (hb : Bi.bit b) (hf : f ≤ 7) (hm : x % 2 ^ (f + 1) = 0) : bits .or .u8 x (b * 2 ^ f % 256) = x + b * 2 ^ f := by
  obtain ⟨k, rfl⟩ : ∃ k : Nat, x = k := ⟨x.toNat, by omega⟩
  have hp : (2 : Int) ^ f = ((2 ^ f : Nat) : Int) := by simp
  have hlt : 2 ^ f < 256 := by
    have : 2 ^ f ≤ 2 ^ 7 := Nat.pow_le_pow_right (by omega) hf
    omega
  have hm' : k % 2 ^ (f + 1) = 0 := by
    have e : (2 : Int) ^ (f + 1) = ((2 ^ (f + 1) : Nat) : Int) := by simp
    rw [e] at hm
    omega
  rcases hb with rfl | rfl
  · have := u8_or_nat k 0 (by omega) (by omega)
    simpa using this
  · rw [Int.one_mul, hp, show ((2 ^ f : Nat) : Int) % 256 = ((2 ^ f : Nat) : Int) by omega, u8_or_nat k (2 ^ f) (by omega) hlt, or_pow k f (by omega) hf hm']
    simp
theorem add_end {w W1 : World} {B a g m n fr cnt : Nat} {bs : List Int} {b : Int} (hB : B ≤ a) (hl : bs.length = n + 1) (hne : g ≠ a) (k0 : Kp a w W1)
    (b1 : Blk W1 a 88 #[.pointer (some ⟨a, 0, none⟩), .slice (some ⟨g, 0, none⟩) (n + 1) m, .int .i64 fr, .int .i64 cnt])
    (o1 : W1.ownsRow B 5 1 (.slice (some ⟨g, 0, none⟩) (n + 1) m) (n + 1) (bs.map (Value.int .u8))) (hb : Bi.bit b) (hok : Bi.Ok bs (fr + 1)) :
    WrC ((W1.setCell ⟨g, n, none⟩ (.int .u8 (bits .or .u8 (Bi.lst bs) (b * 2 ^ fr % 256)))).setCell ⟨a, 3, none⟩ (.int .i64 ((cnt : Int) + 1))).drew B a (.slice (some ⟨g, 0, none⟩) (n + 1) m) (Bi.addB (bs, fr + 1) b).1 fr (cnt + 1) ∧
    Kp a w ((W1.setCell ⟨g, n, none⟩ (.int .u8 (bits .or .u8 (Bi.lst bs) (b * 2 ^ fr % 256)))).setCell ⟨a, 3, none⟩ (.int .i64 ((cnt : Int) + 1))).drew := by
  have fr7 := hok.fr7
  rw [or_u8 (Bi.lst_byte hok) hb (by omega) hok.low]
  have e : (Bi.addB (bs, fr + 1) b).1 = bs.set n (Bi.lst bs + b * 2 ^ fr) := by simp [Bi.addB, hl]
  have hfp : Fp W1 a g := .inr ⟨_, b1.cell 1, rfl⟩
  rw [e]
  refine ⟨⟨hB, ?_, ?_⟩, ?_⟩
  · have := ((b1.far (p := ⟨g, n, none⟩) (fun h => hne h.symm) (.int .u8 (Bi.lst bs + b * 2 ^ fr))).set 3 (.int .i64 ((cnt : Int) + 1)))
    simpa using this.drew
  · rw [List.length_set, hl, List.map_set]
    exact own_far (own_put o1 n _) ⟨a, 3, none⟩ _ (by simp [Value.ownBlock, hne])
  · have k1 := (k0.row hfp hne n (.int .u8 (Bi.lst bs + b * 2 ^ fr)))
    have k2 := k1.set (i := 3) (by simpa [World.setCell] using b1.lt) (by decide) (.int .i64 ((cnt : Int) + 1))
    exact k2.trans (Kp.of_below (Below.refl _ _).drew (by simpa [World.setCell] using b1.lt))
set_option maxRecDepth 100000 in
set_option maxHeartbeats 4000000 in
theorem add_p (w : World) (B a g m n : Nat) (bs : List Int) (fr cnt : Nat) (b : Int) (hW : WrC w B a (.slice (some ⟨g, 0, none⟩) (n + 1) m) bs (fr + 1) cnt) (hl : bs.length = n + 1) (hb : Bi.bit b) (hok : Bi.Ok bs (fr + 1)) (hc : cnt + 1 ≤ 1000000000) (hn : n ≤ 1000000000) :
    Calls Try.prog 73 #[.pointer (some ⟨a, 0, none⟩), .int .u8 b] w fun e w' => e = .returned (.tuple #[]) ∧ WrC w' B a (.slice (some ⟨g, 0, none⟩) (n + 1) m) (Bi.addB (bs, fr + 1) b).1 fr (cnt + 1) ∧ Kp a w w' := by
  obtain ⟨c0, c1, c2, c3⟩ := hW.open
  have f := hW.blk.free
  have hown := hW.own
  rw [hl] at hown
  obtain ⟨g', he, hg, fg, ⟨cs, hB⟩, hgB⟩ := own_at hown n (by omega)
  obtain rfl : g = g' := by simpa using he
  have hne : g ≠ a := hB.ne hW.blk (by decide)
  have hne' : a ≠ g := fun e => hne e.symm
  have hx : (bs.map (Value.int .u8))[n]? = some (.int .u8 (Bi.lst bs)) := by simp [Bi.lst, List.getD_eq_getElem?_getD, hl]
  rw [hx] at hg
  have HL := Lib.hid hl
  have fr7 := hok.fr7
  clear hx hB he hown hl
  go_enter Try.func73, Try.ntmps73
  go_wp2_with fail
  obtain ⟨W1, hW1⟩ : ∃ x, x = w.setCell ⟨a, 2, none⟩ (.int .i64 fr) := ⟨_, rfl⟩
  have k0 : Kp a w W1 := by rw [hW1]; exact (Kp.refl a w).set hW.blk.lt (by decide) _
  have b1 : Blk W1 a 88 #[.pointer (some ⟨a, 0, none⟩), .slice (some ⟨g, 0, none⟩) (n + 1) m, .int .i64 fr, .int .i64 cnt] := by rw [hW1]; exact hW.blk.set 2 _
  have o1 : W1.ownsRow B 5 1 (.slice (some ⟨g, 0, none⟩) (n + 1) m) (n + 1) (bs.map (Value.int .u8)) := by rw [hW1]; exact own_far (HL.out ▸ hW.own) ⟨a, 2, none⟩ _ (by simp [Value.ownBlock, hne])
  have hg1 : W1.cell? ⟨g, n, none⟩ = some (.int .u8 (Bi.lst bs)) := by rw [hW1]; exact cell_far _ hg hne
  have fg1 : ∀ j, W1.frozen? ⟨g, j, none⟩ = false := fun j => by rw [hW1, World.frozen?_setCell]; exact fg j
  have f1 := b1.free
  rw [← hW1]
  clear hW1 c0 c1 c2 c3 f hg fg
  have e1 : IntKind.i64.wrap ((n : Int) + 1 - 1) = (n : Int) := by rw [show (n : Int) + 1 - 1 = n by omega]; exact IntWalk.i64_in _ (by omega)
  have e2 : IntKind.i64.wrap (((n + 1 : Nat) : Int) - 1) = (n : Int) := by rw [show ((n + 1 : Nat) : Int) - 1 = n by omega]; exact IntWalk.i64_in _ (by omega)
  have e6 : IntKind.i64.wrap (n : Int) = (n : Int) := IntWalk.i64_in _ (by omega)
  have e3 : (0 : Int) ≤ (n : Int) := by omega
  have e4 : (n : Int) < (n : Int) + 1 := by omega
  have e5 : (n : Int) < ((n + 1 : Nat) : Int) := by omega
  have q1 : W1.cell? ⟨a, 1, none⟩ = some (.slice (some ⟨g, 0, none⟩) (n + 1) m) := b1.cell 1
  have q2 : W1.cell? ⟨a, 2, none⟩ = some (.int .i64 fr) := b1.cell 2
  have q3 : W1.cell? ⟨a, 3, none⟩ = some (.int .i64 cnt) := b1.cell 3
  have B1 := Lib.hid b1
  have O1 := Lib.hid o1
  have K0 := Lib.hid k0
  clear b1 o1 k0
  go_region_law (fail)
  all_goals
    go_wp2_with fail
    go_end0
    exact ⟨rfl, add_end hW.ge HL.out hne K0.out B1.out O1.out hb hok⟩
end Go.Proofs.Ytaddendclipkkaa