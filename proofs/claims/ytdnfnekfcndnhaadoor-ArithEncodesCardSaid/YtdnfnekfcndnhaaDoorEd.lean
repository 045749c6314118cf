/-
  Layer 11, the code's encoder: raise, Encode.
-/
import Derived.Test.YtdnfnekfcndnhaaDoorEc
set_option maxRecDepth 100000
namespace Go.Proofs.YtdnfnekfcndnhaaDoor
open Go.RowKit

/-- While the carry runs: the bytes that are left, the zeros behind them. -/
structure Carry (n : Nat) (h1 : Int) (k : Nat) (R : List Int) : Prop where
  len : R.length = n
  kn : k ≤ n
  tail : R = R.take k ++ List.replicate (n - k) 0
  bytes : Am.bytes R
  val : (Am.val (R.take k) + 1) * Am.Pw (n - k) = h1
theorem carry0 {n : Nat} {h : Int} (h0 : 0 ≤ h) (hh : h + 1 ≤ Am.Pw n) : Carry n (h + 1) n (Am.dig n h) :=
  ⟨Am.dig_len _ _, Nat.le_refl _, by rw [Nat.sub_self, List.take_of_length_le (by rw [Am.dig_len]; omega)]; simp, Am.dig_bytes _ _, by rw [Nat.sub_self, List.take_of_length_le (by rw [Am.dig_len]; omega), Am.val_dig n h h0 hh, Am.Pw_zero, Int.mul_one]⟩
theorem Carry.pos {n k : Nat} {h1 : Int} {R : List Int} (c : Carry n h1 k R) (hh : h1 + 1 ≤ Am.Pw n) : k ≠ 0 := by
  intro hk
  subst hk
  have := c.val
  rw [List.take_zero, Am.val_nil, Nat.sub_zero] at this
  omega
theorem Carry.at {n k : Nat} {h1 : Int} {R : List Int} (c : Carry n h1 (k + 1) R) : R.take (k + 1) = R.take k ++ [R.getD k 0] ∧ Am.byte (R.getD k 0) := by
  have hk : k < R.length := by have := c.kn; have := c.len; omega
  exact ⟨by rw [List.take_succ_eq_append_getElem hk, List.getD_eq_getElem?_getD, List.getElem?_eq_getElem hk]; rfl, Am.bytes_getD c.bytes k⟩
/-- A byte 255 becomes 0. -/
theorem Carry.next {n k : Nat} {h1 : Int} {R : List Int} (c : Carry n h1 (k + 1) R) (hx : R.getD k 0 = 255) : Carry n h1 k (R.set k 0) := by
  have hk : k < R.length := by have := c.kn; have := c.len; omega
  obtain ⟨e, _⟩ := c.at
  have ht : (R.set k 0).take k = R.take k := by rw [List.take_set, List.set_eq_of_length_le (by simp; omega)]
  refine ⟨by rw [List.length_set]; exact c.len, by have := c.kn; omega, ?_, ?_, ?_⟩
  · have h2 := c.tail
    rw [ht]
    have e3 : R.set k 0 = (R.take k ++ [255] ++ List.replicate (n - (k + 1)) 0).set k 0 := by
      have : R = R.take k ++ [255] ++ List.replicate (n - (k + 1)) 0 := by rw [← hx, ← e]; exact h2
      rw [← this]
    rw [e3, List.append_assoc, List.set_append_right _ _ (by simp; omega), List.length_take, Nat.min_eq_left (by omega), Nat.sub_self]
    have : n - k = (n - (k + 1)) + 1 := by have := c.kn; omega
    rw [this, List.replicate_succ]
    rfl
  · intro x hx'
    rcases List.mem_or_eq_of_mem_set hx' with h3 | rfl
    · exact c.bytes x h3
    · exact ⟨by decide, by decide⟩
  · rw [ht]
    have h2 := c.val
    rw [e, Am.val_snoc, hx] at h2
    have : n - k = (n - (k + 1)) + 1 := by have := c.kn; omega
    rw [this, Am.Pw_succ, ← h2, show 256 * Am.val (R.take k) + 255 + 1 = 256 * (Am.val (R.take k) + 1) by omega, Int.mul_comm 256 (Am.val (R.take k) + 1), Int.mul_assoc]
/-- Any other byte grows, and the number is reached. -/
theorem Carry.done {n k : Nat} {h1 : Int} {R : List Int} (c : Carry n h1 (k + 1) R) (hx : R.getD k 0 ≠ 255) : R.set k (R.getD k 0 + 1) = Am.dig n h1 := by
  have hk : k < R.length := by have := c.kn; have := c.len; omega
  obtain ⟨e, hb⟩ := c.at
  have h2 := c.tail
  have e3 : R.set k (R.getD k 0 + 1) = (R.take k ++ [R.getD k 0 + 1]) ++ List.replicate (n - (k + 1)) 0 := by
    have e4 : R = R.take k ++ [R.getD k 0] ++ List.replicate (n - (k + 1)) 0 := by rw [← e]; exact h2
    have e5 : R.set k (R.getD k 0 + 1) = (R.take k ++ [R.getD k 0] ++ List.replicate (n - (k + 1)) 0).set k (R.getD k 0 + 1) := by rw [← e4]
    rw [e5, List.append_assoc, List.set_append_right _ _ (by simp; omega), List.length_take, Nat.min_eq_left (by omega), Nat.sub_self, List.append_assoc]
    rfl
  have hby : Am.bytes (R.set k (R.getD k 0 + 1)) := by
    intro x hx'
    rcases List.mem_or_eq_of_mem_set hx' with h3 | rfl
    · exact c.bytes x h3
    · unfold Am.byte at *; omega
  have hv : Am.val (R.set k (R.getD k 0 + 1)) = h1 := by
    rw [e3, Am.val_zeros, Am.val_snoc, ← c.val, e, Am.val_snoc]
    rw [Int.add_assoc]
  rw [← hv]
  have hl : (R.set k (R.getD k 0 + 1)).length = n := by rw [List.length_set]; exact c.len
  have := Am.dig_val _ hby
  rw [hl] at this
  exact this.symm
/-- After raise. -/
def Raised (B a : Nat) (pv hv : Value) (P : List Int) (s : Am.St) (y : Int) (w : World) (e : Ending) (w' : World) : Prop := e = .returned (.tuple #[]) ∧ EcC w' B a pv hv (P, ⟨s.lo + y, s.rg, s.n⟩) ∧ Kp a w w'
set_option maxHeartbeats 4000000 in
theorem raise_c (w : World) (B a : Nat) (pv hv : Value) (P : List Int) (s : Am.St) (y : Int) (h : EcC w B a pv hv (P, s)) (h0 : 0 ≤ s.lo) (hy : 0 ≤ y) (hy2 : y ≤ 4294967295) (htop : s.lo + y + 1 ≤ 4294967296 * Am.Pw s.n) (hn : s.n ≤ 1000000000) :
    Calls Tryd.prog 28 #[.pointer (some ⟨a, 0, none⟩), .int .u64 y] w (Raised B a pv hv P s y w) := by
  obtain ⟨c0, c1, c2, c3, c4⟩ := h.r.cells
  have f := h.core.blk.free
  have H := Lib.hid h
  obtain ⟨t, ht⟩ : ∃ t, t = s.lo % 4294967296 := ⟨_, rfl⟩
  have htb : 0 ≤ t ∧ t ≤ 4294967295 := by omega
  have c3' : w.cell? ⟨a, 3, none⟩ = some (.int .u64 t) := by rw [ht]; exact c3
  clear c3
  have HT := Lib.hid ht
  by_cases hc : t + y < 4294967296
  · have hend : Hid ((s.lo + y) % 4294967296 = t + y ∧ (s.lo + y) / 4294967296 = s.lo / 4294967296) := by show _ ∧ _; omega
    clear h ht
    go_enter Tryd.func28, Tryd.ntmps28
    go_wp2_with fail
    go_end0
    have T := H.out.r.tail (t + y)
    refine ⟨rfl, EcR.c (x := (P, ⟨s.lo + y, s.rg, s.n⟩)) ?_, T.2⟩
    show EcR _ B a pv hv P (Am.dig s.n ((s.lo + y) / 4294967296)) ((s.lo + y) % 4294967296) s.rg
    rw [hend.out.1, hend.out.2]
    exact T.1
  · have hend : Hid ((s.lo + y) % 4294967296 = t + y - 4294967296 ∧ (s.lo + y) / 4294967296 = s.lo / 4294967296 + 1) := by show _ ∧ _; omega
    obtain ⟨h1, hh1⟩ : ∃ h1, h1 = s.lo / 4294967296 + 1 := ⟨_, rfl⟩
    have hP1 : Hid (h1 + 1 ≤ Am.Pw s.n) := by show _ ≤ _; omega
    have hC0 : Hid (Carry s.n h1 s.n (Am.dig s.n (s.lo / 4294967296))) := by show Carry _ _ _ _; rw [hh1]; exact carry0 (by omega) (by omega)
    have T := (H.out.r.tail (t + y))
    have T2 := T.1.tail (t + y - 4294967296)
    have hI : Hid (EcR ((w.setCell ⟨a, 3, none⟩ (.int .u64 (t + y))).setCell ⟨a, 3, none⟩ (.int .u64 (t + y - 4294967296))) B a pv hv P (Am.dig s.n (s.lo / 4294967296)) (t + y - 4294967296) s.rg ∧ Kp a w ((w.setCell ⟨a, 3, none⟩ (.int .u64 (t + y))).setCell ⟨a, 3, none⟩ (.int .u64 (t + y - 4294967296)))) := ⟨T2.1, T.2.trans T2.2⟩
    have HH1 := Lib.hid hh1
    obtain ⟨sl, m, rfl⟩ := own_slice h.hd
    clear h ht T T2 hh1 htop
    go_enter Tryd.func28, Tryd.ntmps28
    go_wp2_with fail
    go_loopw [4] (fun i wr => ∃ k : Nat, k ≤ s.n ∧ i = .int .i64 ((k : Int) - 1) ∧ Hid (∃ R, Carry s.n h1 k R ∧ EcR wr B a pv (.slice sl s.n m) P R (t + y - 4294967296) s.rg ∧ Kp a w wr)) (fun i _ => (intOf i + 1).toNat)
    case atStart => exact ⟨s.n, Nat.le_refl _, rfl, ⟨_, hC0, hI⟩⟩
    case round =>
      obtain ⟨k, hk, rfl, R, hC, hE, hK⟩ := hrel
      cases k with
      | zero => exact absurd rfl (hC.pos hP1.out)
      | succ k =>
        have hRl := hC.len
        have hkR : k < R.length := by omega
        have hd := hE.hd
        rw [hRl] at hd
        obtain ⟨g, rfl, hg, fg, _, _⟩ := own_at hd k (by omega)
        have hg2 : wr.cell? ⟨g, k, none⟩ = some (.int .u8 (R.getD k 0)) := by rw [hg, List.getD_eq_getElem?_getD]; simp [hkR]
        have d2 : wr.cell? ⟨a, 2, none⟩ = some (.slice (some ⟨g, 0, none⟩) s.n m) := hE.cells.2.2.1
        have hga : g ≠ a := by have := hE.pa.2; simpa [Value.ownBlock] using this
        have d2' : ∀ v, (wr.setCell ⟨g, k, none⟩ v).cell? ⟨a, 2, none⟩ = some (.slice (some ⟨g, 0, none⟩) s.n m) := fun v => cell_far _ d2 (fun e => hga e.symm)
        have hxb := hC.at.2
        unfold Am.byte at hxb
        have HC := Lib.hid hC
        have HE := Lib.hid hE
        have HK := Lib.hid hK
        by_cases hx : R.getD k 0 = 255
        · have hn1 := Lib.hid (hC.next hx)
          rw [hx] at hg2
          clear hC hE hK hd hg hRl hkR c0 c1 c2 c4 c3' f hI hC0 hx hxb
          go_wp2_with fail
          go_roundw
          case rel =>
            have Y := HE.out.byte k 0
            exact ⟨k, by omega, by go_num, _, hn1.out, Y.1, HK.out.trans Y.2⟩
          case measure => simp [intOf]
        · have hdn := Lib.hid (hC.done hx)
          have hx1 : R.getD k 0 + 1 ≤ 255 := by omega
          clear hC hE hK hd hg hRl hkR c0 c1 c2 c4 c3' f hI hC0 hx
          obtain ⟨x, hxx⟩ : ∃ x, x = R.getD k 0 := ⟨_, rfl⟩
          rw [← hxx] at hg2 hxb hx1 hdn
          clear hxx
          have hnz : (x + 1 != 0) = true := by simp; omega
          go_wp2_with fail
          go_end0
          have Y := HE.out.byte k (x + 1)
          refine ⟨rfl, EcR.c (x := (P, ⟨s.lo + y, s.rg, s.n⟩)) ?_, HK.out.trans Y.2⟩
          show EcR _ B a pv _ P (Am.dig s.n ((s.lo + y) / 4294967296)) ((s.lo + y) % 4294967296) s.rg
          rw [hend.out.1, hend.out.2, ← HH1.out, ← hdn.out]
          exact Y.1
end Go.Proofs.YtdnfnekfcndnhaaDoor
