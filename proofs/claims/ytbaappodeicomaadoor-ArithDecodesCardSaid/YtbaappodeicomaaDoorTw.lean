/-
  The code's writer of layer 12: made, step, Put, Size, Terminate, NewWriter.
-/
import Derived.Test.YtbaappodeicomaaDoorTb
import Derived.Test.YtbaappodeicomaaDoorPk
set_option maxRecDepth 100000
namespace Go.Proofs.YtbaappodeicomaaDoor
open Go.RowKit

theorem drewN_below (w : World) (n : Nat) : Below w.heap.size w (w.drewN n) := by
  induction n with
  | zero => exact Below.refl _ _
  | succ n ih => exact ih.drew
theorem ptrW (w : World) (a : Addr) : (binOp .eql 70 (.pointer (some a)) (.pointer (some a))).run Tryd.prog w = .ok (.bool true) w := by
  obtain ⟨j, hj⟩ : ∃ j, Tryd.prog.info? 89 = some j := ⟨_, rfl⟩
  exact run_eql_ptr_same w a (te := 89) Tryd.underlying70 hj
theorem ptrWz (w : World) (a : Addr) : (binOp .eql 70 (.pointer none) (.pointer (some a))).run Tryd.prog w = .ok (.bool false) w := by
  have h : ∀ d : Nat, (Op.equalIn (d + 1) 70 (.pointer none) (.pointer (some a))).run Tryd.prog w = .ok false w := fun d => by
    simp [Op.equalIn, run_underlying (P := Tryd.prog) (t := 70) Tryd.underlying70]
  simp only [binOp]
  simp [Op.equal, Op.maxDepth, h 9999]
theorem wmade_y (a : Nat) (w : World) (h0 : w.cell? ⟨a, 2, none⟩ = some (.pointer (some ⟨a, 0, none⟩))) : Calls Tryd.prog 79 #[.pointer (some ⟨a, 0, none⟩)] w fun e w' => e = .returned (.bool true) ∧ w = w' := by
  have hp := fun W => ptrW W ⟨a, 0, none⟩
  go_enter Tryd.func79, Tryd.ntmps79
  go_wp2_with fail
  go_ret
  exact ⟨rfl, rfl⟩
theorem wmade_n (w : World) : Calls Tryd.prog 79 #[.pointer none] w fun e w' => e = .returned (.bool false) ∧ w = w' := by
  go_enter Tryd.func79, Tryd.ntmps79
  go_wp2_with fail
  go_ret
  exact ⟨rfl, rfl⟩
theorem wmade_z (a : Nat) (w : World) (h0 : w.cell? ⟨a, 2, none⟩ = some (.pointer none)) : Calls Tryd.prog 79 #[.pointer (some ⟨a, 0, none⟩)] w fun e w' => e = .returned (.bool false) ∧ w = w' := by
  have hp := fun W => ptrWz W ⟨a, 0, none⟩
  go_enter Tryd.func79, Tryd.ntmps79
  go_wp2_with fail
  go_ret
  exact ⟨rfl, rfl⟩
theorem ptrR (w : World) (a : Addr) : (binOp .eql 78 (.pointer (some a)) (.pointer (some a))).run Tryd.prog w = .ok (.bool true) w := by
  obtain ⟨j, hj⟩ : ∃ j, Tryd.prog.info? 91 = some j := ⟨_, rfl⟩
  exact run_eql_ptr_same w a (te := 91) Tryd.underlying78 hj
theorem ptrRz (w : World) (a : Addr) : (binOp .eql 78 (.pointer none) (.pointer (some a))).run Tryd.prog w = .ok (.bool false) w := by
  have h : ∀ d : Nat, (Op.equalIn (d + 1) 78 (.pointer none) (.pointer (some a))).run Tryd.prog w = .ok false w := fun d => by
    simp [Op.equalIn, run_underlying (P := Tryd.prog) (t := 78) Tryd.underlying78]
  simp only [binOp]
  simp [Op.equal, Op.maxDepth, h 9999]
theorem rmade_y (a : Nat) (w : World) (h0 : w.cell? ⟨a, 2, none⟩ = some (.pointer (some ⟨a, 0, none⟩))) : Calls Tryd.prog 81 #[.pointer (some ⟨a, 0, none⟩)] w fun e w' => e = .returned (.bool true) ∧ w = w' := by
  have hp := fun W => ptrR W ⟨a, 0, none⟩
  go_enter Tryd.func81, Tryd.ntmps81
  go_wp2_with fail
  go_ret
  exact ⟨rfl, rfl⟩
theorem rmade_n (w : World) : Calls Tryd.prog 81 #[.pointer none] w fun e w' => e = .returned (.bool false) ∧ w = w' := by
  go_enter Tryd.func81, Tryd.ntmps81
  go_wp2_with fail
  go_ret
  exact ⟨rfl, rfl⟩
theorem rmade_z (a : Nat) (w : World) (h0 : w.cell? ⟨a, 2, none⟩ = some (.pointer none)) : Calls Tryd.prog 81 #[.pointer (some ⟨a, 0, none⟩)] w fun e w' => e = .returned (.bool false) ∧ w = w' := by
  have hp := fun W => ptrRz W ⟨a, 0, none⟩
  go_enter Tryd.func81, Tryd.ntmps81
  go_wp2_with fail
  go_ret
  exact ⟨rfl, rfl⟩
/-- After step. -/
def Stepped (w : World) (a n : Nat) (e : Ending) (w' : World) : Prop := e = .returned (.tuple #[.int .i64 ((n / 8 : Nat) : Int), .int .i64 ((7 - n % 8 : Nat) : Int)]) ∧ ∃ k, w' = (w.drewN k).setCell ⟨a, 1, none⟩ (.int .i64 ((n + 1 : Nat) : Int))
theorem step_c (w : World) (a n : Nat) (c1 : w.cell? ⟨a, 1, none⟩ = some (.int .i64 (n : Int))) (f : ∀ i, w.frozen? ⟨a, i, none⟩ = false) (hn : n ≤ 1000000000) :
    Calls Tryd.prog 80 #[.pointer (some ⟨a, 0, none⟩)] w (Stepped w a n) := by
  have HN : Hid ((n : Int) / 8 = ((n / 8 : Nat) : Int) ∧ 7 - (n : Int) % 8 = ((7 - n % 8 : Nat) : Int) ∧ (n : Int) + 1 = ((n + 1 : Nat) : Int)) := by
    show _ ∧ _ ∧ _
    omega
  go_enter Tryd.func80, Tryd.ntmps80
  go_wp2_with fail
  go_quiet (fail)
  go_wp2_with fail
  go_ret2
  refine ⟨?_, nq, ?_⟩
  · show Ending.returned (.tuple #[.int .i64 ((n : Int) / 8), .int .i64 (7 - (n : Int) % 8)]) = _
    rw [HN.out.1, HN.out.2.1]
  · rw [← HN.out.2.2]
/-- The code's writer at a block, with the bits that were put. -/
structure RwC (w : World) (B a : Nat) (sv : Value) (l : List Int) : Prop where
  core : Core w B a 89 #[sv, .int .i64 (l.length : Int), .pointer (some ⟨a, 0, none⟩)]
  own : w.ownsRow B 5 1 sv (Pk.nb l.length) ((Pk.pk (Pk.nb l.length) l).map (Value.int .u8))
def Rw (w : World) (B a : Nat) (l : List Int) : Prop := ∃ sv, RwC w B a sv l
theorem Rw.lt {w : World} {B a : Nat} {l : List Int} (h : Rw w B a l) : a < w.heap.size := h.elim fun _ h => h.core.lt
theorem Rw.ge {w : World} {B a : Nat} {l : List Int} (h : Rw w B a l) : B ≤ a := h.elim fun _ h => h.core.ge
theorem Rw.fl {w : World} {B a : Nat} {l : List Int} (h : Rw w B a l) : ∀ k, Fp w a k → k < w.heap.size := h.elim fun _ h => h.core.fl
theorem Rw.fp {w : World} {B a : Nat} {l : List Int} (h : Rw w B a l) : ∀ k, Fp w a k → B ≤ k ∧ k < w.heap.size := h.elim fun _ h => h.core.fp
theorem Rw.out {w w1 : World} {B a : Nat} {l : List Int} (h : Rw w B a l) (k : Kp a w w1) : Below B w w1 := h.elim fun _ h => h.core.out k
theorem Rw.keep {w w1 : World} {B a : Nat} {l : List Int} (h : Rw w B a l) (hk : ∀ k, Fp w a k → w1.heap[k]? = w.heap[k]?) : Rw w1 B a l := by
  obtain ⟨sv, h⟩ := h
  exact ⟨sv, h.core.keep hk, own_keep h.own fun k ho => hk k (h.core.of (i := 0) rfl ho)⟩
theorem Rw.below {w w1 : World} {B a : Nat} {l : List Int} (h : Rw w B a l) (hb : Below w.heap.size w w1) : Rw w1 B a l := h.keep fun k hk => hb.block k (h.fl k hk)
theorem Rw.kp {w w1 : World} {B a b : Nat} {l : List Int} (h : Rw w B b l) (hd : Dj w a b) (hk : Kp a w w1) : Rw w1 B b l ∧ Dj w1 a b := ⟨h.keep (hd.kp hk h.fl).2, (hd.kp hk h.fl).1⟩
theorem Rw.lower {w : World} {B B' a : Nat} {l : List Int} (h : Rw w B a l) (hB : B' ≤ B) : Rw w B' a l := by
  obtain ⟨sv, h⟩ := h
  exact ⟨sv, h.core.lower hB, own_lower h.own hB⟩
theorem core_one {w : World} {B a : Nat} {T e : TypeId} {cs : Array Value} {sv : Value} {n i : Nat} {xs : List Value} (hB : B ≤ a) (hb : Blk w a T cs) (hne : e ≠ T) (hi : cs[i]? = some sv) (ho : w.ownsRow B e 1 sv n xs)
    (hr : ∀ (j : Nat) (v : Value), j ≠ i → cs[j]? = some v → v.ownBlock = none) : Core w B a T cs := by
  refine ⟨hB, hb, fun j v k hv hk => ?_, fun j j' v v' k hne hv hv' hk hk' => ?_⟩
  · by_cases h : j = i
    · subst h
      rw [hi] at hv
      obtain rfl := Option.some.inj hv
      obtain ⟨h1, ds, h2⟩ := own_foot ho hk
      exact ⟨h1, e, ds, h2, hne⟩
    · rw [hr j v h hv] at hk; simp at hk
  · by_cases h : j = i
    · rw [hr j' v' (fun e => hne (h.trans e.symm)) hv'] at hk'; simp at hk'
    · rw [hr j v h hv] at hk; simp at hk
/-- The cells of an object of three: a row's value, and two that hold no slice. -/
theorem rest3 {sv x y : Value} (hx : x.ownBlock = none) (hy : y.ownBlock = none) : ∀ (j : Nat) (v : Value), j ≠ 0 → (#[sv, x, y] : Array Value)[j]? = some v → v.ownBlock = none := by
  intro j v hj hv
  match j, hj, hv with
  | 1, _, hv => simp at hv; subst hv; exact hx
  | 2, _, hv => simp at hv; subst hv; exact hy
  | j + 3, _, hv => simp at hv
/-- After a call of a writer: the bits, and what else there is. -/
def RwGives (B a : Nat) (l : List Int) (c : Int) (w : World) (e : Ending) (w' : World) : Prop := e = .returned (.int .i64 c) ∧ Rw w' B a l ∧ Kp a w w'
theorem wnew_c (w : World) : Calls Tryd.prog 44 #[] w fun e w' => ∃ a, e = .returned (.pointer (some ⟨a, 0, none⟩)) ∧ Rw w' w.heap.size a [] ∧ Below w.heap.size w w' := by
  go_enter Tryd.func44, Tryd.ntmps44
  go_wp2_with fail
  go_ret
  exact ⟨_, rfl, ⟨.slice none 0 0, core_one (i := 0) (e := 5) (n := 0) (xs := []) (Nat.le_refl _) (Blk.new w 89 _) (by decide) rfl (World.ownsRow_nil _ _ _ _) (rest3 rfl rfl), World.ownsRow_nil _ _ _ _⟩, (Below.refl _ _).alloc (Nat.le_refl _) _⟩
theorem wsize_c (w : World) (B a : Nat) (l : List Int) (h : Rw w B a l) (hl : l.length ≤ 1000000000) : Calls Tryd.prog 51 #[.pointer (some ⟨a, 0, none⟩)] w fun e w' => e = .returned (.int .i64 ((Pk.nb l.length : Nat) : Int)) ∧ w = w' := by
  obtain ⟨sv, h⟩ := h
  have c0 : w.cell? ⟨a, 0, none⟩ = some sv := h.core.blk.cell 0
  have c2 : w.cell? ⟨a, 2, none⟩ = some (.pointer (some ⟨a, 0, none⟩)) := h.core.blk.cell 2
  obtain ⟨s, m, rfl⟩ := own_slice h.own
  clear h
  have hn : Pk.nb l.length ≤ 1000000000 := by unfold Pk.nb; omega
  generalize Pk.nb l.length = n at *
  go_enter Tryd.func51, Tryd.ntmps51
  go_wp2_with (first | (go_at_call 79; refine (wmade_y _ _ c2).mono ?_; rintro e wn ⟨rfl, rfl⟩))
  go_ret
  exact ⟨rfl, rfl⟩
/-- What Terminate returns: a slice over the bytes, none of them the writer's any more. -/
def WTerm (B a : Nat) (l : List Int) (w : World) (e : Ending) (w' : World) : Prop := ∃ s m, e = .returned (.slice s (Pk.seg l).length m) ∧ HoldsB w' s (Pk.seg l) ∧ (Pk.seg l).length ≤ m ∧ (∀ p, s = some p → B ≤ p.block ∧ ∃ ds, Blk w' p.block 5 ds) ∧ (s = none → Pk.seg l = [] ∧ m = 0) ∧ Rw w' B a [] ∧ Kp a w w'
theorem wterm_c (w : World) (B a : Nat) (l : List Int) (h : Rw w B a l) (hl : l.length ≤ 1000000000) : Calls Tryd.prog 47 #[.pointer (some ⟨a, 0, none⟩)] w (WTerm B a l w) := by
  obtain ⟨sv, h⟩ := h
  have H := Lib.hid h
  have c0 : w.cell? ⟨a, 0, none⟩ = some sv := h.core.blk.cell 0
  have c1 : w.cell? ⟨a, 1, none⟩ = some (.int .i64 (l.length : Int)) := h.core.blk.cell 1
  have c2 : w.cell? ⟨a, 2, none⟩ = some (.pointer (some ⟨a, 0, none⟩)) := h.core.blk.cell 2
  have f := h.core.blk.free
  have ho := h.own
  obtain ⟨L, hL⟩ : ∃ L, L = Pk.pk (Pk.nb l.length) l := ⟨_, rfl⟩
  have hLl : Pk.nb l.length = L.length := by rw [hL, Pk.pk_len]
  rw [← hL, hLl] at ho
  have HL := Lib.hid hL
  obtain ⟨_, s, m, rfl, hH, ⟨hm, hm2⟩, hs⟩ := HoldsB.of_own ho
  have ht := trim_c L s m w hH hm (by rw [← hLl]; unfold Pk.nb; omega)
  have HH := Lib.hid hH
  have HO := Lib.hid ho
  have HS := Lib.hid hs
  have hseg : Hid (Pk.seg l = Am.trim L) := by show _ = _; rw [hL]; rfl
  clear h ho hL hLl hH hs
  go_enter Tryd.func47, Tryd.ntmps47
  go_wp2_with (first | (go_at_call 79; refine (wmade_y _ _ c2).mono ?_; rintro e wn ⟨rfl, rfl⟩) | (go_at_call 69; refine ht.mono ?_; rintro e wn ⟨rfl, rfl⟩))
  go_ret
  have K1 := H.out.core.put 0 (.slice none 0 0) (fun k hk => by simp [Value.ownBlock] at hk)
  have K2 := (K1.num 1 (.int .i64 0) rfl).1
  have K3 := (H.out.core.num 0 (.slice none 0 0) rfl).2.trans (K1.num 1 (.int .i64 0) rfl).2
  have hpre := Am.trim_pre L
  have hne := own_blk_ne HO.out H.out.core.blk (by decide)
  have O2 := own_far (own_far HO.out ⟨a, 0, none⟩ (.slice none 0 0) hne) ⟨a, 1, none⟩ (.int .i64 0) hne
  refine ⟨s, m, by rw [hseg.out]; rfl, ?_, by rw [hseg.out]; omega, fun p hp => ?_, fun h0 => ?_, ⟨.slice none 0 0, by simpa using K2, World.ownsRow_nil _ _ _ _⟩, K3⟩
  · obtain ⟨_, s', m', he, hH', _⟩ := HoldsB.of_own O2
    simp at he
    obtain ⟨rfl, rfl⟩ := he
    rw [hseg.out, hpre.2.1]
    exact hH'.take _
  · subst hp
    exact own_foot O2 rfl
  · have := HS.out h0
    refine ⟨?_, this.2⟩
    rw [hseg.out, this.1]; rfl
theorem or_pow (x f : Nat) (hx : x < 256) (hf : f ≤ 7) (hm : x % 2 ^ (f + 1) = 0) : x ||| 2 ^ f = x + 2 ^ f := by
  have key : ∀ f, f < 8 → ∀ x, x < 256 → x % 2 ^ (f + 1) = 0 → x ||| 2 ^ f = x + 2 ^ f := by decide +kernel
  exact key f (by omega) x hx hm
theorem or_u8 {x b : Int} {f : Nat} (h0 : 0 ≤ x ∧ x ≤ 255) (hb : Pk.bit b) (hf : f ≤ 7) (hm : x % 2 ^ (f + 1) = 0) : bits .or .u8 x (b * 2 ^ f % 256) = x + b * 2 ^ f := by
  obtain ⟨k, rfl⟩ : ∃ k : Nat, x = k := ⟨x.toNat, by omega⟩
  have hp : (2 : Int) ^ f = ((2 ^ f : Nat) : Int) := by simp
  have hlt : 2 ^ f < 256 := by
    have : 2 ^ f ≤ 2 ^ 7 := Nat.pow_le_pow_right (by omega) hf
    omega
  have hm' : k % 2 ^ (f + 1) = 0 := by
    have e : (2 : Int) ^ (f + 1) = ((2 ^ (f + 1) : Nat) : Int) := by simp
    rw [e] at hm
    omega
  rcases hb with rfl | rfl
  · have := u8_or_nat k 0 (by omega) (by omega)
    simpa using this
  · rw [Int.one_mul, hp, show ((2 ^ f : Nat) : Int) % 256 = ((2 ^ f : Nat) : Int) by omega, u8_or_nat k (2 ^ f) (by omega) hlt, or_pow k f (by omega) hf hm']
    simp
theorem put_no (w : World) (B a : Nat) (l : List Int) (b : Int) (h : Rw w B a l) (hb : ¬ Pk.bit b) : Calls Tryd.prog 49 #[.pointer (some ⟨a, 0, none⟩), .int .i64 b] w (RwGives B a l 2 w) := by
  have H := Lib.hid h
  obtain ⟨sv, h⟩ := h
  have c2 : w.cell? ⟨a, 2, none⟩ = some (.pointer (some ⟨a, 0, none⟩)) := h.core.blk.cell 2
  have b0 : (b != 0) = true := by simp; exact fun e => hb (.inl e)
  have b1 : (b != 1) = true := by simp; exact fun e => hb (.inr e)
  have b0' : (b == 0) = false := by simp; exact fun e => hb (.inl e)
  have b1' : (b == 1) = false := by simp; exact fun e => hb (.inr e)
  clear h hb
  go_enter Tryd.func49, Tryd.ntmps49
  go_wp2_with (first | (go_at_call 79; refine (wmade_y _ _ c2).mono ?_; rintro e wn ⟨rfl, rfl⟩))
  go_ret
  exact ⟨rfl, H.out, Kp.refl _ _⟩
/-- The writer's memory behind step. -/
structure Step1 (w : World) (B a g m q : Nat) (l : List Int) (W1 : World) : Prop where
  core : Core W1 B a 89 #[.slice (some ⟨g, 0, none⟩) (q + 1) m, .int .i64 ((l.length : Int) + 1), .pointer (some ⟨a, 0, none⟩)]
  own : W1.ownsRow B 5 1 (.slice (some ⟨g, 0, none⟩) (q + 1) m) (q + 1) ((Pk.pk (q + 1) l).map (Value.int .u8))
  kp : Kp a w W1
  byte : W1.cell? ⟨g, q, none⟩ = some (.int .u8 (Pk.byt l q))
  free : ∀ j, W1.frozen? ⟨g, j, none⟩ = false
theorem step1 {w : World} {B a g m q : Nat} {l : List Int} (h : RwC w B a (.slice (some ⟨g, 0, none⟩) (q + 1) m) l) (hnb : Pk.nb l.length = q + 1) (k : Nat) : Step1 w B a g m q l ((w.drewN k).setCell ⟨a, 1, none⟩ (.int .i64 ((l.length : Int) + 1))) := by
  have D := drewN_below w k
  have C0 := h.core.keep (w1 := w.drewN k) (fun j hj => D.block j (h.core.fl j hj))
  have N1 := C0.num 1 (.int .i64 ((l.length : Int) + 1)) rfl
  have ho := h.own
  rw [hnb] at ho
  have hne := own_blk_ne ho h.core.blk (by decide)
  have O0 := own_keep (w1 := w.drewN k) ho (fun j hj => D.block j (h.core.fl j (h.core.of (i := 0) rfl hj)))
  have O1 := own_far O0 ⟨a, 1, none⟩ (.int .i64 ((l.length : Int) + 1)) hne
  obtain ⟨g', he, h1, h2, _⟩ := own_at O1 q (by omega)
  obtain rfl : g = g' := by simpa using he
  refine ⟨by simpa using N1.1, O1, (Kp.of_below D h.core.lt).trans N1.2, ?_, h2⟩
  rw [h1]
  simp [Pk.pk]
theorem put_end {w W1 : World} {B a g m q r : Nat} {l : List Int} {b v : Int} (S : Step1 w B a g m q l W1) (hq : l.length / 8 = q) (hr : 7 - l.length % 8 = r) (hnb : Pk.nb (l.length + 1) = q + 1) (hv : v = Pk.byt l q + b * 2 ^ r) :
    Rw (W1.setCell ⟨g, q, none⟩ (.int .u8 v)).drew B a (l ++ [b]) ∧ Kp a w (W1.setCell ⟨g, q, none⟩ (.int .u8 v)).drew := by
  have R := S.core.row (i := 0) (g := g) rfl rfl q (.int .u8 v)
  have K := S.kp.trans R.2
  have O := own_put S.own q (.int .u8 v)
  refine ⟨⟨.slice (some ⟨g, 0, none⟩) (q + 1) m, ?_, ?_⟩, K.trans (Kp.of_below (Below.refl _ _).drew R.1.lt)⟩
  · have := R.1
    rw [List.length_append, List.length_singleton]
    exact ⟨this.ge, this.blk, this.foot, this.dis⟩
  · rw [List.length_append, List.length_singleton, hnb, Pk.pk_set, hq, hr, List.map_set, ← hv]
    exact O
theorem put_val {l : List Int} {q r : Nat} {b y v : Int} (hlow : Pk.byt l q % 2 ^ (r + 1) = 0) (hl : Pk.bits l) (hb : Pk.bit b) (hr7 : r ≤ 7) (hy : y = bits .or .u8 (Pk.byt l q) (b * 2 ^ r % 256)) (hv : v = y) : v = Pk.byt l q + b * 2 ^ r := by
  rw [hv, hy, or_u8 (Pk.byt_bd hl q) hb hr7 hlow]
theorem put_p (w : World) (B a g m q r : Nat) (l : List Int) (b : Int) (h : RwC w B a (.slice (some ⟨g, 0, none⟩) (q + 1) m) l) (hb : Pk.bit b) (hl : Pk.bits l) (hq : l.length / 8 = q) (hr : 7 - l.length % 8 = r) (h8 : l.length % 8 ≠ 0) (hn : l.length + 1 ≤ 1000000000) :
    Calls Tryd.prog 49 #[.pointer (some ⟨a, 0, none⟩), .int .i64 b] w (RwGives B a (l ++ [b]) 0 w) := by
  have H := Lib.hid h
  have c0 : w.cell? ⟨a, 0, none⟩ = some (.slice (some ⟨g, 0, none⟩) (q + 1) m) := h.core.blk.cell 0
  have c1 : w.cell? ⟨a, 1, none⟩ = some (.int .i64 (l.length : Int)) := h.core.blk.cell 1
  have c2 : w.cell? ⟨a, 2, none⟩ = some (.pointer (some ⟨a, 0, none⟩)) := h.core.blk.cell 2
  have f := h.core.blk.free
  have hs := step_c w a l.length c1 f (by omega)
  unfold Stepped at hs
  rw [hq, hr] at hs
  have hnb : Pk.nb l.length = q + 1 := by unfold Pk.nb; omega
  have HL : Hid (l.length / 8 = q ∧ 7 - l.length % 8 = r ∧ l.length % 8 ≠ 0 ∧ Pk.nb l.length = q + 1 ∧ r ≤ 6 ∧ q ≤ 1000000000) := ⟨hq, hr, h8, hnb, by omega, by omega⟩
  have HLOW : Hid (Pk.byt l q % 2 ^ (r + 1) = 0) := by show _ = _; rw [← hq, ← hr]; exact Pk.byt_low h8
  have hbb : b = 0 ∨ b = 1 := hb
  have HB := Lib.hid hb
  clear h hq hr h8 hb hnb
  have b01 : 0 ≤ b ∧ b ≤ 1 := by omega
  have hq9 : q ≤ 1000000000 := HL.out.2.2.2.2.2
  have hr6 : r ≤ 6 := HL.out.2.2.2.2.1
  clear b01
  rcases hbb with rfl | rfl
  · go_enter Tryd.func49, Tryd.ntmps49
    go_wp2_with (first | (go_at_call 79; refine (wmade_y _ _ c2).mono ?_; rintro e wn ⟨rfl, rfl⟩) | (go_at_call 80; refine hs.mono ?_; rintro e wn ⟨rfl, k, rfl⟩))
    obtain ⟨W1, hW1⟩ : ∃ x, x = (w.drewN k).setCell ⟨a, 1, none⟩ (.int .i64 ((l.length : Int) + 1)) := ⟨_, rfl⟩
    have S1 : Hid (Step1 w B a g m q l W1) := by rw [hW1]; exact step1 H.out HL.out.2.2.2.1 k
    rw [← hW1]
    clear hW1 c0 c1 c2 f hs
    have q1 : W1.cell? ⟨a, 0, none⟩ = some (.slice (some ⟨g, 0, none⟩) (q + 1) m) := S1.out.core.blk.cell 0
    have g1 : W1.cell? ⟨g, q, none⟩ = some (.int .u8 (Pk.byt l q)) := S1.out.byte
    have fg1 : ∀ j, W1.frozen? ⟨g, j, none⟩ = false := S1.out.free
    have e6 : IntKind.i64.wrap (q : Int) = (q : Int) := IntWalk.i64_in _ (by omega)
    have e7 : IntKind.i64.wrap (r : Int) = (r : Int) := IntWalk.i64_in _ (by omega)
    have e3 : (0 : Int) ≤ (q : Int) := by omega
    have e8 : (0 : Int) ≤ (r : Int) := by omega
    have e4 : (q : Int) < (q : Int) + 1 := by omega
    have e5 : (q : Int) < ((q + 1 : Nat) : Int) := by omega
    obtain ⟨x, hx⟩ : ∃ x, x = Pk.byt l q := ⟨_, rfl⟩
    rw [← hx] at g1
    have HX := Lib.hid hx
    clear hx
    go_region_law (fail)
    all_goals
      go_wp2_with fail
      go_ret
      exact ⟨rfl, put_end (b := 0) S1.out HL.out.1 HL.out.2.1 (by have := HL.out; unfold Pk.nb at *; omega) (put_val HLOW.out hl (.inl rfl) (by omega) rfl (by rw [HX.out]; simp [IntKind.wrap_u8]))⟩
  · go_enter Tryd.func49, Tryd.ntmps49
    go_wp2_with (first | (go_at_call 79; refine (wmade_y _ _ c2).mono ?_; rintro e wn ⟨rfl, rfl⟩) | (go_at_call 80; refine hs.mono ?_; rintro e wn ⟨rfl, k, rfl⟩))
    obtain ⟨W1, hW1⟩ : ∃ x, x = (w.drewN k).setCell ⟨a, 1, none⟩ (.int .i64 ((l.length : Int) + 1)) := ⟨_, rfl⟩
    have S1 : Hid (Step1 w B a g m q l W1) := by rw [hW1]; exact step1 H.out HL.out.2.2.2.1 k
    rw [← hW1]
    clear hW1 c0 c1 c2 f hs
    have q1 : W1.cell? ⟨a, 0, none⟩ = some (.slice (some ⟨g, 0, none⟩) (q + 1) m) := S1.out.core.blk.cell 0
    have g1 : W1.cell? ⟨g, q, none⟩ = some (.int .u8 (Pk.byt l q)) := S1.out.byte
    have fg1 : ∀ j, W1.frozen? ⟨g, j, none⟩ = false := S1.out.free
    have e6 : IntKind.i64.wrap (q : Int) = (q : Int) := IntWalk.i64_in _ (by omega)
    have e7 : IntKind.i64.wrap (r : Int) = (r : Int) := IntWalk.i64_in _ (by omega)
    have e3 : (0 : Int) ≤ (q : Int) := by omega
    have e8 : (0 : Int) ≤ (r : Int) := by omega
    have e4 : (q : Int) < (q : Int) + 1 := by omega
    have e5 : (q : Int) < ((q + 1 : Nat) : Int) := by omega
    obtain ⟨x, hx⟩ : ∃ x, x = Pk.byt l q := ⟨_, rfl⟩
    rw [← hx] at g1
    have HX := Lib.hid hx
    clear hx
    go_region_law (fail)
    all_goals
      go_wp2_with fail
      go_ret
      exact ⟨rfl, put_end (b := 1) S1.out HL.out.1 HL.out.2.1 (by have := HL.out; unfold Pk.nb at *; omega) (put_val HLOW.out hl (.inr rfl) (by omega) rfl (by rw [HX.out]; simp [IntKind.wrap_u8]))⟩
/-- The writer's memory behind step, where a byte begins. -/
structure Step0 (w : World) (B a q : Nat) (sv : Value) (l : List Int) (W1 : World) : Prop where
  core : Core W1 B a 89 #[sv, .int .i64 ((l.length : Int) + 1), .pointer (some ⟨a, 0, none⟩)]
  own : W1.ownsRow B 5 1 sv q ((Pk.pk q l).map (Value.int .u8))
  kp : Kp a w W1
theorem step0 {w : World} {B a q : Nat} {sv : Value} {l : List Int} (h : RwC w B a sv l) (hnb : Pk.nb l.length = q) (k : Nat) : Step0 w B a q sv l ((w.drewN k).setCell ⟨a, 1, none⟩ (.int .i64 ((l.length : Int) + 1))) := by
  have D := drewN_below w k
  have C0 := h.core.keep (w1 := w.drewN k) (fun j hj => D.block j (h.core.fl j hj))
  have N1 := C0.num 1 (.int .i64 ((l.length : Int) + 1)) rfl
  have ho := h.own
  rw [hnb] at ho
  have hne := own_blk_ne ho h.core.blk (by decide)
  have O0 := own_keep (w1 := w.drewN k) ho (fun j hj => D.block j (h.core.fl j (h.core.of (i := 0) rfl hj)))
  have O1 := own_far O0 ⟨a, 1, none⟩ (.int .i64 ((l.length : Int) + 1)) hne
  exact ⟨by simpa using N1.1, O1, (Kp.of_below D h.core.lt).trans N1.2⟩
theorem step0_grow {w W1 w2 : World} {B a q : Nat} {sv v' : Value} {l : List Int} {X : Obj} (h : Step0 w B a q sv l W1) (h8 : l.length % 8 = 0) (hnb : Pk.nb l.length = q)
    (hown : w2.ownsRow B 5 1 v' (q + 1) ((Pk.pk q l).map (Value.int .u8) ++ [.int .u8 0])) (hg : (W1.alloc X).grownBy w2 sv.ownBlock) (hat : v'.ownBlock = sv.ownBlock ∨ v'.ownBlock = some (W1.heap.size + 1)) :
    ∃ g m, v' = .slice (some ⟨g, 0, none⟩) (q + 1) m ∧ Step1 w B a g m q l (w2.setCell ⟨a, 0, none⟩ v') ∧ Blk w2 a 89 #[sv, .int .i64 ((l.length : Int) + 1), .pointer (some ⟨a, 0, none⟩)] := by
  have hmore : (Pk.pk q l).map (Value.int .u8) ++ [.int .u8 0] = (Pk.pk (q + 1) l).map (Value.int .u8) := by
    rw [← hnb, Pk.pk_more h8, List.map_append]; rfl
  rw [hmore] at hown
  obtain ⟨x1, x2, x3, x4⟩ := h.core.grow (i := 0) rfl h.own (by decide) hown hg (hat.imp id fun he k hk => by rw [he] at hk; have := Option.some.inj hk; omega)
  obtain ⟨g, m, rfl, hgB, ⟨cs, hBg⟩, hg1, fg⟩ := own_form x2
  refine ⟨g, m, rfl, ⟨by simpa using x1, x2, h.kp.trans x3, ?_, fg⟩, x4⟩
  rw [hg1]
  simp [Pk.pk]
theorem put_z (w : World) (B a q : Nat) (s : Option Addr) (m : Nat) (l : List Int) (b : Int) (h : RwC w B a (.slice s q m) l) (hb : Pk.bit b) (hl : Pk.bits l) (hq : l.length / 8 = q) (h8 : l.length % 8 = 0) (hn : l.length + 1 ≤ 1000000000) :
    Calls Tryd.prog 49 #[.pointer (some ⟨a, 0, none⟩), .int .i64 b] w (RwGives B a (l ++ [b]) 0 w) := by
  have H := Lib.hid h
  have c0 : w.cell? ⟨a, 0, none⟩ = some (.slice s q m) := h.core.blk.cell 0
  have c1 : w.cell? ⟨a, 1, none⟩ = some (.int .i64 (l.length : Int)) := h.core.blk.cell 1
  have c2 : w.cell? ⟨a, 2, none⟩ = some (.pointer (some ⟨a, 0, none⟩)) := h.core.blk.cell 2
  have f := h.core.blk.free
  have hs := step_c w a l.length c1 f (by omega)
  unfold Stepped at hs
  rw [hq, h8] at hs
  have HL : Hid (l.length / 8 = q ∧ 7 - l.length % 8 = 7 ∧ l.length % 8 = 0 ∧ Pk.nb l.length = q ∧ q ≤ 1000000000) := ⟨hq, by omega, h8, by unfold Pk.nb; omega, by omega⟩
  have HLOW : Hid (Pk.byt l q % 2 ^ (7 + 1) = 0) := by show _ = _; rw [Pk.byt_over (by omega)]; rfl
  have hbb : b = 0 ∨ b = 1 := hb
  clear h hq h8 hb
  have hq9 : q ≤ 1000000000 := HL.out.2.2.2.2
  obtain ⟨i0, hi, hz0, hz1, hz2⟩ := info_parts info8
  rcases hbb with rfl | rfl
  · go_enter Tryd.func49, Tryd.ntmps49
    go_upto_region 7 with (first | (go_at_call 79; refine (wmade_y _ _ c2).mono ?_; rintro e wn ⟨rfl, rfl⟩) | (go_at_call 80; refine hs.mono ?_; rintro e wn ⟨rfl, k, rfl⟩))
    obtain ⟨W1, hW1⟩ : ∃ x, x = (w.drewN k).setCell ⟨a, 1, none⟩ (.int .i64 ((l.length : Int) + 1)) := ⟨_, rfl⟩
    have S0 : Hid (Step0 w B a q (.slice s q m) l W1) := by rw [hW1]; exact step0 H.out HL.out.2.2.2.1 k
    rw [← hW1]
    clear hW1 c0 c1 c2 f hs
    have d0 : W1.cell? ⟨a, 0, none⟩ = some (.slice s q m) := S0.out.core.blk.cell 0
    have df : ∀ i, W1.frozen? ⟨a, i, none⟩ = false := S0.out.core.blk.free
    have hB1 : B ≤ W1.heap.size := by have := S0.out.core.lt; have := S0.out.core.ge; omega
    go_wp2_with (first | (at_builtin; refine wpList_append_own_at _ rfl _ _ 34 rfl B 5 i0 (.int .u8 0) 1 1 Tryd.underlying34 hi hz0 hz1 hz2 rfl (by decide) _ q _ rfl (own_below S0.out.own ((Below.refl _ _).alloc (Nat.le_refl _) _)) ⟨W1.heap.size, 0, none⟩ 1 1 [.int .u8 0] rfl rfl (one_new8 _ _ _) (oneOne8 _) (by unfold maxLen; omega) (by omega) (by simp; omega) ?_))
    intro v' w2 hown hgrow _ hat
    obtain ⟨g, m2, rfl, S1'⟩ := step0_grow S0.out HL.out.2.2.1 HL.out.2.2.2.1 hown hgrow hat
    have S1 := Lib.hid S1'
    have d2 : w2.cell? ⟨a, 0, none⟩ = some (.slice s q m) := S1'.2.cell 0
    have df2 : ∀ i, w2.frozen? ⟨a, i, none⟩ = false := S1'.2.free
    clear S1' hown hgrow hat d0 df
    go_upto_region 8 with fail
    obtain ⟨W3, hW3⟩ : ∃ x, x = w2.setCell ⟨a, 0, none⟩ (.slice (some ⟨g, 0, none⟩) (q + 1) m2) := ⟨_, rfl⟩
    replace S1 : Hid (Step1 w B a g m2 q l W3) := by rw [hW3]; exact S1.out.1
    rw [← hW3]
    clear hW3 d2 df2
    have q1 : W3.cell? ⟨a, 0, none⟩ = some (.slice (some ⟨g, 0, none⟩) (q + 1) m2) := S1.out.core.blk.cell 0
    have g1 : W3.cell? ⟨g, q, none⟩ = some (.int .u8 (Pk.byt l q)) := S1.out.byte
    have fg1 : ∀ j, W3.frozen? ⟨g, j, none⟩ = false := S1.out.free
    have e6 : IntKind.i64.wrap (q : Int) = (q : Int) := IntWalk.i64_in _ (by omega)
    have e3 : (0 : Int) ≤ (q : Int) := by omega
    have e4 : (q : Int) < (q : Int) + 1 := by omega
    have e5 : (q : Int) < ((q + 1 : Nat) : Int) := by omega
    obtain ⟨x, hx⟩ : ∃ x, x = Pk.byt l q := ⟨_, rfl⟩
    rw [← hx] at g1
    have HX := Lib.hid hx
    clear hx
    go_region_law (fail)
    all_goals
      go_wp2_with fail
      go_ret
      exact ⟨rfl, put_end (b := 0) S1.out HL.out.1 HL.out.2.1 (by have := HL.out; unfold Pk.nb at *; omega) (put_val HLOW.out hl (.inl rfl) (by omega) rfl (by rw [HX.out]; simp [IntKind.wrap_u8]))⟩
  · go_enter Tryd.func49, Tryd.ntmps49
    go_upto_region 7 with (first | (go_at_call 79; refine (wmade_y _ _ c2).mono ?_; rintro e wn ⟨rfl, rfl⟩) | (go_at_call 80; refine hs.mono ?_; rintro e wn ⟨rfl, k, rfl⟩))
    obtain ⟨W1, hW1⟩ : ∃ x, x = (w.drewN k).setCell ⟨a, 1, none⟩ (.int .i64 ((l.length : Int) + 1)) := ⟨_, rfl⟩
    have S0 : Hid (Step0 w B a q (.slice s q m) l W1) := by rw [hW1]; exact step0 H.out HL.out.2.2.2.1 k
    rw [← hW1]
    clear hW1 c0 c1 c2 f hs
    have d0 : W1.cell? ⟨a, 0, none⟩ = some (.slice s q m) := S0.out.core.blk.cell 0
    have df : ∀ i, W1.frozen? ⟨a, i, none⟩ = false := S0.out.core.blk.free
    have hB1 : B ≤ W1.heap.size := by have := S0.out.core.lt; have := S0.out.core.ge; omega
    go_wp2_with (first | (at_builtin; refine wpList_append_own_at _ rfl _ _ 34 rfl B 5 i0 (.int .u8 0) 1 1 Tryd.underlying34 hi hz0 hz1 hz2 rfl (by decide) _ q _ rfl (own_below S0.out.own ((Below.refl _ _).alloc (Nat.le_refl _) _)) ⟨W1.heap.size, 0, none⟩ 1 1 [.int .u8 0] rfl rfl (one_new8 _ _ _) (oneOne8 _) (by unfold maxLen; omega) (by omega) (by simp; omega) ?_))
    intro v' w2 hown hgrow _ hat
    obtain ⟨g, m2, rfl, S1'⟩ := step0_grow S0.out HL.out.2.2.1 HL.out.2.2.2.1 hown hgrow hat
    have S1 := Lib.hid S1'
    have d2 : w2.cell? ⟨a, 0, none⟩ = some (.slice s q m) := S1'.2.cell 0
    have df2 : ∀ i, w2.frozen? ⟨a, i, none⟩ = false := S1'.2.free
    clear S1' hown hgrow hat d0 df
    go_upto_region 8 with fail
    obtain ⟨W3, hW3⟩ : ∃ x, x = w2.setCell ⟨a, 0, none⟩ (.slice (some ⟨g, 0, none⟩) (q + 1) m2) := ⟨_, rfl⟩
    replace S1 : Hid (Step1 w B a g m2 q l W3) := by rw [hW3]; exact S1.out.1
    rw [← hW3]
    clear hW3 d2 df2
    have q1 : W3.cell? ⟨a, 0, none⟩ = some (.slice (some ⟨g, 0, none⟩) (q + 1) m2) := S1.out.core.blk.cell 0
    have g1 : W3.cell? ⟨g, q, none⟩ = some (.int .u8 (Pk.byt l q)) := S1.out.byte
    have fg1 : ∀ j, W3.frozen? ⟨g, j, none⟩ = false := S1.out.free
    have e6 : IntKind.i64.wrap (q : Int) = (q : Int) := IntWalk.i64_in _ (by omega)
    have e3 : (0 : Int) ≤ (q : Int) := by omega
    have e4 : (q : Int) < (q : Int) + 1 := by omega
    have e5 : (q : Int) < ((q + 1 : Nat) : Int) := by omega
    obtain ⟨x, hx⟩ : ∃ x, x = Pk.byt l q := ⟨_, rfl⟩
    rw [← hx] at g1
    have HX := Lib.hid hx
    clear hx
    go_region_law (fail)
    all_goals
      go_wp2_with fail
      go_ret
      exact ⟨rfl, put_end (b := 1) S1.out HL.out.1 HL.out.2.1 (by have := HL.out; unfold Pk.nb at *; omega) (put_val HLOW.out hl (.inr rfl) (by omega) rfl (by rw [HX.out]; simp [IntKind.wrap_u8]))⟩
/-- What a call of Put gives. -/
def putL (l : List Int) (b : Int) : List Int := if b = 0 ∨ b = 1 then l ++ [b] else l
def putE (b : Int) : Int := if b = 0 ∨ b = 1 then 0 else 2
theorem putL_bits {l : List Int} (h : Pk.bits l) (b : Int) : Pk.bits (putL l b) := by
  unfold putL; split
  · rename_i hb; exact Pk.bits_snoc h hb
  · exact h
theorem putL_len (l : List Int) (b : Int) : (putL l b).length ≤ l.length + 1 := by unfold putL; split <;> simp
theorem put_c (w : World) (B a : Nat) (l : List Int) (b : Int) (h : Rw w B a l) (hl : Pk.bits l) (hn : l.length + 1 ≤ 1000000000) :
    Calls Tryd.prog 49 #[.pointer (some ⟨a, 0, none⟩), .int .i64 b] w (RwGives B a (putL l b) (putE b) w) := by
  unfold putL putE
  by_cases hb : b = 0 ∨ b = 1
  · rw [if_pos hb, if_pos hb]
    obtain ⟨sv, h⟩ := h
    have ho := h.own
    obtain ⟨s, m, rfl⟩ := own_slice ho
    by_cases h8 : l.length % 8 = 0
    · have e : Pk.nb l.length = l.length / 8 := by unfold Pk.nb; omega
      rw [e] at h
      exact put_z w B a _ s m l b h hb hl rfl h8 hn
    · have e : Pk.nb l.length = l.length / 8 + 1 := by unfold Pk.nb; omega
      rw [e] at ho
      obtain ⟨g, m', he, _⟩ := own_form ho
      simp at he
      obtain ⟨rfl, _, rfl⟩ := he
      rw [e] at h
      exact put_p w B a g m _ _ l b h hb hl rfl rfl h8 hn
  · rw [if_neg hb, if_neg hb]
    exact put_no w B a l b h hb
end Go.Proofs.YtbaappodeicomaaDoor
