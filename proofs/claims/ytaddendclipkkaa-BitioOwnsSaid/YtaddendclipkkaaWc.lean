/-
  The code's writer of layer 9: digits, Put, Bits, Gamma, Unary, Len.
-/
import Derived.Test.YtaddendclipkkaaWb
import Derived.Shelf.Strconv.Itoa0
set_option maxRecDepth 100000
namespace Go.Proofs.Ytaddendclipkkaa
open Go.RowKit

/-- The code's writer at a block, with the bits that were appended. -/
def Wr (w : World) (B a : Nat) (l : List Int) : Prop := ∃ sv, WrC w B a sv (Bi.st l).1 (Bi.st l).2 l.length
theorem Wr.made {w : World} {B a : Nat} {l : List Int} (h : Wr w B a l) : w.cell? ⟨a, 0, none⟩ = some (.pointer (some ⟨a, 0, none⟩)) := h.elim fun _ h => h.open.1
theorem Wr.lt {w : World} {B a : Nat} {l : List Int} (h : Wr w B a l) : a < w.heap.size := h.elim fun _ h => h.blk.lt
theorem Wr.ge {w : World} {B a : Nat} {l : List Int} (h : Wr w B a l) : B ≤ a := h.elim fun _ h => h.ge
theorem Wr.foot {w : World} {B a : Nat} {l : List Int} (h : Wr w B a l) (k : Nat) (hk : Fp w a k) : B ≤ k ∧ k < w.heap.size := by
  obtain ⟨sv, h⟩ := h
  rcases hk with rfl | ⟨v, hv, hk⟩
  · exact ⟨h.ge, h.blk.lt⟩
  · rw [h.open.2.1] at hv
    obtain rfl := Option.some.inj hv
    exact h.own.lt k hk
theorem Wr.out {w w1 : World} {B a : Nat} {l : List Int} (h : Wr w B a l) (k : Kp a w w1) : Below B w w1 := k.below (fun i hi => (h.foot i hi).1) (by have := h.ge; have := h.lt; omega)
theorem Wr.keep {w w1 : World} {B a : Nat} {l : List Int} (h : Wr w B a l) (hk : ∀ k, Fp w a k → w1.heap[k]? = w.heap[k]?) : Wr w1 B a l := by
  obtain ⟨sv, h⟩ := h
  refine ⟨sv, h.ge, (hk a (.inl rfl)).trans h.blk, ?_⟩
  obtain ⟨h1, h2⟩ := h.own
  refine ⟨h1, ?_⟩
  rcases h2 with h2 | ⟨g, cap, cur, hv, h3, h4, h5⟩
  · exact .inl h2
  · exact .inr ⟨g, cap, cur, hv, h3, (hk g (.inr ⟨sv, h.open.2.1, by rw [hv]; rfl⟩)).trans h4, h5⟩
theorem Wr.below {w w1 : World} {B a : Nat} {l : List Int} (h : Wr w B a l) (hb : Below w.heap.size w w1) : Wr w1 B a l := h.keep fun k hk => hb.block k (h.foot k hk).2
/-- After a call of a writer: the bits, and what else there is. -/
def WGives (B a : Nat) (l : List Int) (c : Int) (w : World) (e : Ending) (w' : World) : Prop := e = .returned (.int .i64 c) ∧ Wr w' B a l ∧ Kp a w w'
theorem add_c (w : World) (B a : Nat) (l : List Int) (b : Int) (hW : Wr w B a l) (hl : Bi.bits l) (hb : Bi.bit b) (hc : l.length + 1 ≤ 1000000000) :
    Calls Try.prog 73 #[.pointer (some ⟨a, 0, none⟩), .int .u8 b] w fun e w' => e = .returned (.tuple #[]) ∧ Wr w' B a (l ++ [b]) ∧ Kp a w w' := by
  obtain ⟨sv, h⟩ := hW
  have hok := Bi.st_ok hl
  have hsl := Bi.st_len l
  have key : Calls Try.prog 73 #[.pointer (some ⟨a, 0, none⟩), .int .u8 b] w fun e w' => e = .returned (.tuple #[]) ∧ (∃ sv', WrC w' B a sv' (Bi.addB (Bi.st l) b).1 (Bi.addB (Bi.st l) b).2 (l.length + 1)) ∧ Kp a w w' := by
    generalize Bi.st l = s at *
    obtain ⟨bs, fr⟩ := s
    cases fr with
    | zero => exact add_z w B a sv bs l.length b h hb hc (by simp at hsl; omega)
    | succ f =>
      have hne : bs ≠ [] := fun e => by have := hok.emp e; simp at this
      obtain ⟨n, hn⟩ : ∃ n, bs.length = n + 1 := ⟨bs.length - 1, by have := List.length_pos_iff.2 hne; omega⟩
      have ho := h.own
      simp only [hn] at ho
      obtain ⟨g, m, hsv, _⟩ := own_form ho
      subst hsv
      refine (add_p w B a g m n bs f l.length b h hn hb hok hc (by simp at hsl; omega)).mono ?_
      rintro e w' ⟨h1, h2, h3⟩
      refine ⟨h1, ⟨.slice (some ⟨g, 0, none⟩) (n + 1) m, ?_⟩, h3⟩
      rw [show (Bi.addB (bs, f + 1) b).2 = f by simp [Bi.addB]]
      exact h2
  refine key.mono ?_
  rintro e w' ⟨h1, ⟨sv', h2⟩, h3⟩
  exact ⟨h1, ⟨sv', by rw [Bi.st_snoc, List.length_append]; exact h2⟩, h3⟩
theorem and1 (x : Int) : bits .and .i64 x 1 = x % 2 := by
  have h1 : (BitVec.ofInt 64 x &&& BitVec.ofInt 64 1).toNat = (x % 18446744073709551616).toNat % 2 := by
    rw [BitVec.toNat_and, BitVec.toNat_ofInt, BitVec.toNat_ofInt, show ((1 : Int) % ((2 ^ 64 : Nat) : Int)).toNat = 1 from by decide, Nat.and_one_is_mod]
    rfl
  show IntKind.i64.wrap ((BitVec.ofInt 64 x &&& BitVec.ofInt 64 1).toNat : Int) = x % 2
  rw [h1, IntWalk.i64_in _ (by omega)]
  omega
set_option maxHeartbeats 1000000 in
theorem digits_c (w : World) (B a : Nat) (l : List Int) (v : Int) (n : Nat) (hW : Wr w B a l) (hl : Bi.bits l) (_ : 0 ≤ v) (hn : n ≤ 63) (hc : l.length + n ≤ 1000000000) :
    Calls Try.prog 74 #[.pointer (some ⟨a, 0, none⟩), .int .i64 v, .int .i64 n] w fun e w' => e = .returned (.tuple #[]) ∧ Wr w' B a (l ++ Bi.dig v n) ∧ Kp a w w' := by
  have ha := and1
  go_enter Try.func74, Try.ntmps74
  go_wp2_with fail
  go_loopw [6] (fun i wr => ∃ k : Nat, k ≤ n ∧ i = .int .i64 ((k : Int) - 1) ∧ Wr wr B a (l ++ (Bi.dig v n).take (n - k)) ∧ Kp a w wr) (fun i _ => (intOf i + 1).toNat)
  case atStart => exact ⟨n, Nat.le_refl _, rfl, by simpa using hW, Kp.refl a w⟩
  case round =>
    obtain ⟨k, hk, rfl, hR, hK⟩ := hrel
    cases k with
    | zero =>
      go_wp2_with fail
      go_end0
      exact ⟨rfl, by simpa [List.take_of_length_le (Nat.le_of_eq (Bi.dig_len v n))] using hR, hK⟩
    | succ k =>
      go_wp2_with (first | (go_at_call 73; refine (add_c _ B a _ (v / 2 ^ k % 2) hR (Bi.bits_app hl (Bi.bits_take (Bi.dig_bits v n) _)) (by unfold Bi.bit; omega) (by simp [Bi.dig_len]; omega)).mono ?_; rintro e wn ⟨rfl, hR1, hK1⟩))
      go_roundw
      case rel => exact ⟨k, by omega, rfl, by rw [← Bi.dig_next v (show k < n by omega), ← List.append_assoc]; exact hR1, hK.trans hK1⟩
      case measure => simp [intOf]
theorem len_c (w : World) (B a : Nat) (l : List Int) (hW : Wr w B a l) : Calls Try.prog 25 #[.pointer (some ⟨a, 0, none⟩)] w fun e w' => e = .returned (.int .i64 l.length) ∧ w = w' := by
  obtain ⟨sv, h⟩ := hW
  obtain ⟨c0, c1, c2, c3⟩ := h.open
  go_enter Try.func25, Try.ntmps25
  go_wp2_with (first | (go_at_call 56; refine (made_y _ _ c0).mono ?_; rintro e wn ⟨rfl, rfl⟩))
  go_ret
  exact ⟨rfl, rfl⟩
/-- Whether a number has n binary digits, n at most 32. -/
def okB (v n : Int) : Bool := decide (0 ≤ n ∧ n ≤ 32 ∧ 0 ≤ v ∧ v < 2 ^ n.toNat)
theorem pow_bd {k : Nat} (h : k ≤ 32) : (1 : Int) ≤ 2 ^ k ∧ (2 : Int) ^ k ≤ 4294967296 := by
  have e : (2 : Int) ^ k = ((2 ^ k : Nat) : Int) := by simp
  have h1 : 2 ^ k ≤ 2 ^ 32 := Nat.pow_le_pow_right (by omega) h
  have h2 : 0 < 2 ^ k := Nat.two_pow_pos k
  rw [e]; omega
theorem bitsW_c (w : World) (B a : Nat) (l : List Int) (v n : Int) (hW : Wr w B a l) (hl : Bi.bits l) (hc : l.length + 32 ≤ 1000000000) :
    Calls Try.prog 51 #[.pointer (some ⟨a, 0, none⟩), .int .i64 v, .int .i64 n] w (if okB v n then WGives B a (l ++ Bi.dig v n.toNat) 0 w else fun e w' => e = .returned (.int .i64 1) ∧ w = w') := by
  have c0 := hW.made
  cases hd : dgB n with
  | false =>
    have ho : okB v n = false := by simp [okB]; simp [dgB] at hd; omega
    rw [ho]
    have hi := isD_c n
    rw [hd] at hi
    go_enter Try.func51, Try.ntmps51
    go_wp2_with (first | (go_at_call 56; refine (made_y _ _ c0).mono ?_; rintro e wn ⟨rfl, rfl⟩) | (go_at_call 75; refine (hi _).mono ?_; rintro e wn ⟨rfl, rfl⟩))
    go_ret
    exact ⟨rfl, rfl⟩
  | true =>
    have hd' : 0 ≤ n ∧ n ≤ 32 := by simpa [dgB] using hd
    obtain ⟨k, rfl⟩ : ∃ k : Nat, n = k := ⟨n.toNat, by omega⟩
    have hi := isD_c k
    rw [hd] at hi
    have hk : k ≤ 32 := by omega
    have hp := pow_bd hk
    by_cases h0 : v < 0
    · have ho : okB v k = false := by simp [okB]; omega
      rw [ho]
      clear hd hd' ho
      go_enter Try.func51, Try.ntmps51
      go_wp2_with (first | (go_at_call 56; refine (made_y _ _ c0).mono ?_; rintro e wn ⟨rfl, rfl⟩) | (go_at_call 75; refine (hi _).mono ?_; rintro e wn ⟨rfl, rfl⟩))
      go_ret
      exact ⟨rfl, rfl⟩
    · by_cases h1 : v < 2 ^ k
      · have ho : okB v k = true := by simp [okB]; omega
        rw [ho]
        clear hd hd' ho
        have hv : 0 ≤ v := by omega
        go_enter Try.func51, Try.ntmps51
        go_wp2_with (first | (go_at_call 56; refine (made_y _ _ c0).mono ?_; rintro e wn ⟨rfl, rfl⟩) | (go_at_call 75; refine (hi _).mono ?_; rintro e wn ⟨rfl, rfl⟩) | (go_at_call 74; refine (digits_c _ B a l v k hW hl hv (by omega) (by omega)).mono ?_; rintro e wn ⟨rfl, hR1, hK1⟩))
        go_ret
        exact ⟨rfl, by simpa using hR1, hK1⟩
      · have ho : okB v k = false := by simp [okB]; omega
        rw [ho]
        clear hd hd' ho
        go_enter Try.func51, Try.ntmps51
        go_wp2_with (first | (go_at_call 56; refine (made_y _ _ c0).mono ?_; rintro e wn ⟨rfl, rfl⟩) | (go_at_call 75; refine (hi _).mono ?_; rintro e wn ⟨rfl, rfl⟩))
        go_ret
        exact ⟨rfl, rfl⟩
/-- What a call of a writer appends, and its error. -/
def bitsM (v n : Int) : List Int := if okB v n then Bi.dig v n.toNat else []
def bitsC (v n : Int) : Int := if okB v n then 0 else 1
def gamB (v : Int) : Bool := decide (1 ≤ v ∧ v < 4294967296)
def gamM (v : Int) : List Int := if gamB v then Bi.gam v else []
def gamC (v : Int) : Int := if gamB v then 0 else 1
def unaM (v : Int) : List Int := if unB v then Bi.una v.toNat else []
def unaC (v : Int) : Int := if unB v then 0 else 1
theorem wsame {w : World} {B a : Nat} {l : List Int} (hW : Wr w B a l) (c : Int) : WGives B a l c w (.returned (.int .i64 c)) w := ⟨rfl, hW, Kp.refl a w⟩
theorem bitsM_bits (v n : Int) : Bi.bits (bitsM v n) := by unfold bitsM; split; exact Bi.dig_bits _ _; exact Bi.bits_nil
theorem gamM_bits (v : Int) : Bi.bits (gamM v) := by unfold gamM; split; exact Bi.dig_bits _ _; exact Bi.bits_nil
theorem unaM_bits (v : Int) : Bi.bits (unaM v) := by unfold unaM; split; exact Bi.una_bits _; exact Bi.bits_nil
theorem bitsM_len (v n : Int) : (bitsM v n).length ≤ 32 := by
  unfold bitsM; split
  · rename_i h; simp [okB] at h; rw [Bi.dig_len]; omega
  · simp
theorem bitsW (w : World) (B a : Nat) (l : List Int) (v n : Int) (hW : Wr w B a l) (hl : Bi.bits l) (hc : l.length + 32 ≤ 1000000000) :
    Calls Try.prog 51 #[.pointer (some ⟨a, 0, none⟩), .int .i64 v, .int .i64 n] w (WGives B a (l ++ bitsM v n) (bitsC v n) w) := by
  have h := bitsW_c w B a l v n hW hl hc
  unfold bitsM bitsC
  cases ho : okB v n with
  | true => rw [ho] at h; exact h
  | false =>
    rw [ho] at h
    refine h.mono ?_
    rintro e w' ⟨rfl, rfl⟩
    simpa using wsame hW 1
theorem putW (w : World) (B a : Nat) (l : List Int) (v : Int) (hW : Wr w B a l) (hl : Bi.bits l) (hc : l.length + 32 ≤ 1000000000) :
    Calls Try.prog 50 #[.pointer (some ⟨a, 0, none⟩), .int .i64 v] w (WGives B a (l ++ bitsM v 1) (bitsC v 1) w) := by
  have h := bitsW w B a l v 1 hW hl hc
  go_enter Try.func50, Try.ntmps50
  go_wp2_with (first | (go_at_call 51; refine h.mono ?_; rintro e wn ⟨rfl, hR1, hK1⟩))
  go_ret
  exact ⟨rfl, hR1, hK1⟩
theorem len_lays : Lays.n129 Try.prog ⟨fun _ => 80, fun n => if n = 3 then 3 else if n = 4 then 4 else if n = 5 then 5 else if n = 9 then 9 else if n = 46 then 86 else 119, fun n => n⟩ where
  mixed := by kernel_rfl
  f129 := Try.func80.trans (congrArg some (by kernel_rfl))
  t3 := Try.underlying3
  a3 := Try.isAgg3
  z3 := Try.sizeOf3
  v3 := Try.zeroValue3
  t4 := Try.underlying4
  a4 := Try.isAgg4
  z4 := Try.sizeOf4
  v4 := Try.zeroValue4
  t5 := Try.underlying5
  a5 := Try.isAgg5
  z5 := Try.sizeOf5
  v5 := Try.zeroValue5
  t9 := Try.underlying9
  a9 := Try.isAgg9
  z9 := Try.sizeOf9
  v9 := Try.zeroValue9
  t46 := Try.underlying86
  a46 := Try.isAgg86
  z46 := Try.sizeOf86
  v46 := Try.zeroValue86
  t53 := Try.underlying119
  a53 := Try.isAgg119
  z53 := Try.sizeOf119
  v53 := Try.zeroValue119
theorem len64 (x : Int) (w : World) (h0 : 0 ≤ x) (h1 : x ≤ 18446744073709551615) :
    Calls Try.prog 80 #[.int .u64 x] w fun e w' => e = .returned (.int .i64 (Lib.bitLen x.toNat)) ∧ w' = w :=
  Any.bits_Len64 len_lays x w h0 h1
theorem lenU (x : Int) (w : World) (h0 : 0 ≤ x) (h1 : x ≤ 4294967295) :
    Calls Try.prog 58 #[.int .u64 x] w fun e w' => e = .returned (.int .i64 (Lib.bitLen x.toNat)) ∧ w = w' := by
  go_enter Try.func58, Try.ntmps58
  go_wp2_with (first | (go_at_call 80; refine (len64 x _ h0 (by omega)).mono ?_; rintro e wn ⟨rfl, rfl⟩))
  go_ret
  exact ⟨rfl, rfl⟩
theorem bl_bd {n : Nat} (h : 0 < n) (h2 : n < 4294967296) : 1 ≤ Lib.bitLen n ∧ Lib.bitLen n ≤ 32 ∧ 2 ^ (Lib.bitLen n - 1) ≤ n ∧ n < 2 ^ Lib.bitLen n := by
  have key : ∀ k n : Nat, 0 < n → n < 2 ^ k → k ≤ 32 → 1 ≤ Lib.bitLen n ∧ Lib.bitLen n ≤ k ∧ 2 ^ (Lib.bitLen n - 1) ≤ n ∧ n < 2 ^ Lib.bitLen n := by
    intro k
    induction k with
    | zero => intro n h0 h1 _; simp at h1; omega
    | succ k ih =>
      intro n h0 h1 hk
      have hlt : n < 2 ^ 64 := Nat.lt_of_lt_of_le h1 (Nat.pow_le_pow_right (by omega) (by omega))
      rw [Lib.bitLen_half n (by omega) hlt]
      rcases Nat.eq_zero_or_pos (n / 2) with hz | hp
      · have : n = 1 := by omega
        subst this
        simp [Lib.bitLen, Lib.bitLenAux]
      · obtain ⟨i1, i2, i3, i4⟩ := ih (n / 2) hp (by rw [Nat.pow_succ] at h1; omega) (by omega)
        obtain ⟨m, hm⟩ : ∃ m, Lib.bitLen (n / 2) = m + 1 := ⟨Lib.bitLen (n / 2) - 1, by omega⟩
        rw [hm] at i2 i3 i4 ⊢
        rw [show 1 + (m + 1) - 1 = m + 1 by omega, show 1 + (m + 1) = (m + 1) + 1 by omega, Nat.pow_succ 2 (m + 1)]
        rw [show m + 1 - 1 = m by omega] at i3
        rw [Nat.pow_succ] at i4 ⊢
        omega
  have := key 32 n h (by omega) (by omega)
  exact this
set_option maxHeartbeats 1000000 in
theorem gamW (w : World) (B a : Nat) (l : List Int) (v : Int) (hW : Wr w B a l) (hl : Bi.bits l) (hc : l.length + 64 ≤ 1000000000) :
    Calls Try.prog 45 #[.pointer (some ⟨a, 0, none⟩), .int .i64 v] w (WGives B a (l ++ gamM v) (gamC v) w) := by
  have c0 := hW.made
  unfold gamM gamC
  by_cases h1 : v < 1
  · have ho : gamB v = false := by simp [gamB]; omega
    rw [ho]
    go_enter Try.func45, Try.ntmps45
    go_wp2_with (first | (go_at_call 56; refine (made_y _ _ c0).mono ?_; rintro e wn ⟨rfl, rfl⟩))
    go_ret
    exact wsame hW 1
  · by_cases h2 : v < 4294967296
    · have ho : gamB v = true := by simp [gamB]; omega
      rw [ho]
      have hb := bl_bd (n := v.toNat) (by omega) (by omega)
      obtain ⟨K, hK⟩ : ∃ K, K = Lib.bitLen v.toNat := ⟨_, rfl⟩
      rw [← hK] at hb
      have HK := Lib.hid hK
      have hLn : Calls Try.prog 58 #[.int .u64 v] w fun e w' => e = .returned (.int .i64 K) ∧ w = w' := by rw [hK]; exact lenU v w (by omega) (by omega)
      have hD := digits_c w B a l v (2 * K - 1) hW hl (by omega) (by omega) (by omega)
      have e0 : ((2 * K - 1 : Nat) : Int) = 2 * (K : Int) - 1 := by omega
      rw [e0] at hD
      have b1 := hb.1
      have b2 := hb.2.1
      have hv : 0 ≤ v := by omega
      have hgam : Hid (Bi.gam v = Bi.dig v (2 * K - 1)) := by show _ = _; rw [hK]; rfl
      clear hK hb ho e0
      go_enter Try.func45, Try.ntmps45
      go_wp2_with (first | (go_at_call 56; refine (made_y _ _ c0).mono ?_; rintro e wn ⟨rfl, rfl⟩) | (go_at_call 58; refine (hLn).mono ?_; rintro e wn ⟨rfl, rfl⟩) | (go_at_call 74; refine hD.mono ?_; rintro e wn ⟨rfl, hR1, hK1⟩))
      go_ret
      exact ⟨rfl, by rw [hgam.out]; exact hR1, hK1⟩
    · have ho : gamB v = false := by simp [gamB]; omega
      rw [ho]
      go_enter Try.func45, Try.ntmps45
      go_wp2_with (first | (go_at_call 56; refine (made_y _ _ c0).mono ?_; rintro e wn ⟨rfl, rfl⟩))
      go_ret
      exact wsame hW 1
set_option maxHeartbeats 1000000 in
theorem unaW (w : World) (B a : Nat) (l : List Int) (v : Int) (hW : Wr w B a l) (hl : Bi.bits l) (hc : l.length + 70000 ≤ 1000000000) :
    Calls Try.prog 44 #[.pointer (some ⟨a, 0, none⟩), .int .i64 v] w (WGives B a (l ++ unaM v) (unaC v) w) := by
  have c0 := hW.made
  unfold unaM unaC
  have hu := isU_c v
  cases ho : unB v with
  | false =>
    rw [ho] at hu
    go_enter Try.func44, Try.ntmps44
    go_wp2_with (first | (go_at_call 56; refine (made_y _ _ c0).mono ?_; rintro e wn ⟨rfl, rfl⟩) | (go_at_call 72; refine (hu _).mono ?_; rintro e wn ⟨rfl, rfl⟩))
    go_ret
    exact wsame hW 1
  | true =>
    rw [ho] at hu
    have hv : 0 ≤ v ∧ v ≤ 65535 := by simpa [unB] using ho
    obtain ⟨n, rfl⟩ : ∃ n : Nat, v = n := ⟨v.toNat, by omega⟩
    have hn : n ≤ 65535 := by omega
    clear ho hv
    go_enter Try.func44, Try.ntmps44
    go_wp2_with (first | (go_at_call 56; refine (made_y _ _ c0).mono ?_; rintro e wn ⟨rfl, rfl⟩) | (go_at_call 72; refine (hu _).mono ?_; rintro e wn ⟨rfl, rfl⟩))
    go_loopw [14] (fun i wr => ∃ k : Nat, k ≤ n ∧ i = .int .i64 (k : Int) ∧ Wr wr B a (l ++ List.replicate k 1) ∧ Kp a w wr) (fun i _ => n - (intOf i).toNat)
    case atStart => exact ⟨0, Nat.zero_le _, rfl, by simpa using hW, Kp.refl a w⟩
    case round =>
      obtain ⟨k, hk, rfl, hR, hK⟩ := hrel
      by_cases hlt : k < n
      · go_wp2_with (first | (go_at_call 73; refine (add_c _ B a _ 1 hR (Bi.bits_app hl (Bi.ones_bits k)) (.inr rfl) (by simp; omega)).mono ?_; rintro e wn ⟨rfl, hR1, hK1⟩))
        go_roundw
        case rel => exact ⟨k + 1, by omega, by go_num, by rw [List.replicate_succ', ← List.append_assoc]; exact hR1, hK.trans hK1⟩
        case measure => simp [intOf]; omega
      · obtain rfl : k = n := by omega
        go_wp2_with (first | (go_at_call 73; refine (add_c _ B a _ 0 hR (Bi.bits_app hl (Bi.ones_bits k)) (.inl rfl) (by simp; omega)).mono ?_; rintro e wn ⟨rfl, hR1, hK1⟩))
        go_ret
        exact ⟨rfl, by simpa [Bi.una] using hR1, hK.trans hK1⟩
end Go.Proofs.Ytaddendclipkkaa
