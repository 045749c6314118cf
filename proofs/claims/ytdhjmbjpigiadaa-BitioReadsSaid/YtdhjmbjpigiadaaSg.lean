/-
  The reference's reader of layer 9: Align.
-/
import Derived.Test.YtdhjmbjpigiadaaSf
set_option maxRecDepth 100000
namespace Go.Proofs.Ytdhjmbjpigiadaa
open Go.RowKit

theorem and_lowI {x : Int} {q : Nat} (h : 0 ≤ x ∧ x ≤ 255) (hq : q ≤ 8) : bits .and .i64 x (2 ^ q - 1) = x % 2 ^ q := by
  obtain ⟨k, rfl⟩ : ∃ k : Nat, x = k := ⟨x.toNat, by omega⟩
  have hp := pow8 hq
  have e : (2 : Int) ^ q = ((2 ^ q : Nat) : Int) := by simp
  have e2 : (2 : Int) ^ q - 1 = ((2 ^ q - 1 : Nat) : Int) := by rw [e] at hp ⊢; omega
  have h1 : (BitVec.ofInt 64 (k : Int) &&& BitVec.ofInt 64 ((2 ^ q - 1 : Nat) : Int)).toNat = k % 2 ^ q := by
    rw [BitVec.toNat_and, BitVec.toNat_ofInt, BitVec.toNat_ofInt]
    have e3 : ((k : Int) % ((2 ^ 64 : Nat) : Int)).toNat = k := by omega
    have e4 : (((2 ^ q - 1 : Nat) : Int) % ((2 ^ 64 : Nat) : Int)).toNat = 2 ^ q - 1 := by rw [e] at hp; omega
    rw [e3, e4, Nat.and_two_pow_sub_one_eq_mod]
  rw [e2, e]
  show IntKind.i64.wrap ((BitVec.ofInt 64 (k : Int) &&& BitVec.ofInt 64 ((2 ^ q - 1 : Nat) : Int)).toNat : Int) = _
  have hmod : k % 2 ^ q ≤ k := Nat.mod_le _ _
  rw [h1, IntWalk.i64_in _ (by omega)]
  simp
theorem sal_r0 (w : World) (B b : Nat) (bs : List Int) (n q : Nat) (hR : Sp w B b bs (n + 1) (q + 1)) (hn : n < bs.length) (hq : q ≤ 7) (hx : 0 ≤ bs[n] ∧ bs[n] ≤ 255) (hm0 : bs[n] % 2 ^ (q + 1) = 0) (hl : bs.length ≤ 100000000) :
    Calls Try.prog 69 #[.pointer (some ⟨b, 0, none⟩)] w (SpGives B b bs (n + 1) 0 ((n : Int) + 1) 0 w) := by
  have HR := Lib.hid hR
  obtain ⟨sv, h⟩ := hR
  have c0 : w.cell? ⟨b, 0, none⟩ = some (.bool true) := h.blk.cell 0
  have c1 : w.cell? ⟨b, 1, none⟩ = some sv := h.blk.cell 1
  have c2 : w.cell? ⟨b, 2, none⟩ = some (.int .i64 ((n : Int) + 1)) := h.blk.cell 2
  have c3 : w.cell? ⟨b, 3, none⟩ = some (.int .i64 ((q : Int) + 1)) := h.blk.cell 3
  have ff : ∀ i, w.frozen? ⟨b, i, none⟩ = false := h.blk.free
  obtain ⟨_, s, m, rfl, hH, ⟨hm, _⟩, _⟩ := HoldsB.of_own h.own
  obtain ⟨g, rfl, hc8, _, ⟨cs, hB8⟩, _⟩ := own_at h.own (n) hn
  have hcell : w.cell? ⟨g, n, none⟩ = some (.int .u8 bs[n]) := by rw [hc8]; simp
  have hne : b ≠ g := h.blk.ne hB8 (by decide)
  have hne' : g ≠ b := fun e => hne e.symm
  clear hc8 hB8
  have e1 : IntKind.i64.wrap (n : Int) = (n : Int) := IntWalk.i64_in _ (by omega)
  have e2 : IntKind.u64.wrap ((q : Int) + 1) = (q : Int) + 1 := by rw [IntKind.wrap_u64]; omega
  have e3 : decide ((0 : Int) < (q : Int) + 1) = true := decide_eq_true (by omega)
  have e4 : ((q : Int) + 1 == 0) = false := by simp; omega
  have hp := pow8 (k := q + 1) (by omega)
  have hand := and_lowI (q := q + 1) hx (by omega)
  have e5 : IntKind.i64.wrap (2 ^ (q + 1)) = 2 ^ (q + 1) := IntWalk.i64_in _ (by omega)
  have e6 : IntKind.i64.wrap (2 ^ (q + 1) - 1) = 2 ^ (q + 1) - 1 := IntWalk.i64_in _ (by omega)
  have e7 : (2 : Int) ^ ((q : Int) + 1).toNat = 2 ^ (q + 1) := by congr 1
  generalize bs[n] = X at *
  have e8 : IntKind.i64.wrap X = X := IntWalk.i64_in _ (by omega)
  clear h
  go_enter Try.func69, Try.ntmps69
  go_wp2_with fail
  go_quiet (fail)
  generalize nq = nqa at *
  go_wp2_with fail
  go_quiet (fail)
  generalize nq = nqb at *
  go_wp2_with fail
  go_ret2
  have h0 := HR.out.drewN (nqa + nqb)
  have h1 := h0.1.set3 0 (x := 0) rfl
  exact ⟨rfl, h1.1, h0.2.trans h1.2⟩
theorem sal_r1 (w : World) (B b : Nat) (bs : List Int) (n q : Nat) (hR : Sp w B b bs (n + 1) (q + 1)) (hn : n < bs.length) (hq : q ≤ 7) (hx : 0 ≤ bs[n] ∧ bs[n] ≤ 255) (hm0 : bs[n] % 2 ^ (q + 1) ≠ 0) (hl : bs.length ≤ 100000000) :
    Calls Try.prog 69 #[.pointer (some ⟨b, 0, none⟩)] w (SpGives B b bs (n + 1) (q + 1) 0 8 w) := by
  have HR := Lib.hid hR
  obtain ⟨sv, h⟩ := hR
  have c0 : w.cell? ⟨b, 0, none⟩ = some (.bool true) := h.blk.cell 0
  have c1 : w.cell? ⟨b, 1, none⟩ = some sv := h.blk.cell 1
  have c2 : w.cell? ⟨b, 2, none⟩ = some (.int .i64 ((n : Int) + 1)) := h.blk.cell 2
  have c3 : w.cell? ⟨b, 3, none⟩ = some (.int .i64 ((q : Int) + 1)) := h.blk.cell 3
  have ff : ∀ i, w.frozen? ⟨b, i, none⟩ = false := h.blk.free
  obtain ⟨_, s, m, rfl, hH, ⟨hm, _⟩, _⟩ := HoldsB.of_own h.own
  obtain ⟨g, rfl, hc8, _, ⟨cs, hB8⟩, _⟩ := own_at h.own (n) hn
  have hcell : w.cell? ⟨g, n, none⟩ = some (.int .u8 bs[n]) := by rw [hc8]; simp
  have hne : b ≠ g := h.blk.ne hB8 (by decide)
  have hne' : g ≠ b := fun e => hne e.symm
  clear hc8 hB8
  have e1 : IntKind.i64.wrap (n : Int) = (n : Int) := IntWalk.i64_in _ (by omega)
  have e2 : IntKind.u64.wrap ((q : Int) + 1) = (q : Int) + 1 := by rw [IntKind.wrap_u64]; omega
  have e3 : decide ((0 : Int) < (q : Int) + 1) = true := decide_eq_true (by omega)
  have e4 : ((q : Int) + 1 == 0) = false := by simp; omega
  have hp := pow8 (k := q + 1) (by omega)
  have hand := and_lowI (q := q + 1) hx (by omega)
  have e5 : IntKind.i64.wrap (2 ^ (q + 1)) = 2 ^ (q + 1) := IntWalk.i64_in _ (by omega)
  have e6 : IntKind.i64.wrap (2 ^ (q + 1) - 1) = 2 ^ (q + 1) - 1 := IntWalk.i64_in _ (by omega)
  have e7 : (2 : Int) ^ ((q : Int) + 1).toNat = 2 ^ (q + 1) := by congr 1
  generalize bs[n] = X at *
  have e9 : (X % 2 ^ (q + 1) == 0) = false := by simpa using hm0
  have e91 : (X % 2 ^ (q + 1) != 0) = true := by simpa using hm0
  have e8 : IntKind.i64.wrap X = X := IntWalk.i64_in _ (by omega)
  clear h
  go_enter Try.func69, Try.ntmps69
  go_wp2_with fail
  go_quiet (fail)
  generalize nq = nqa at *
  go_wp2_with fail
  go_ret2
  exact ⟨rfl, HR.out.drewN nqa⟩
theorem sal_n (w : World) (B b : Nat) (bs : List Int) (k : Nat) (hR : Sp w B b bs (k + 1) 0) (hn : k + 1 ≤ bs.length) (hs : bs[k] ≠ 255) (hl : bs.length ≤ 100000000) :
    Calls Try.prog 69 #[.pointer (some ⟨b, 0, none⟩)] w (SpGives B b bs (k + 1) 0 ((k : Int) + 1) 0 w) := by
  have HR := Lib.hid hR
  obtain ⟨sv, h⟩ := hR
  have c0 : w.cell? ⟨b, 0, none⟩ = some (.bool true) := h.blk.cell 0
  have c1 : w.cell? ⟨b, 1, none⟩ = some sv := h.blk.cell 1
  have c2 : w.cell? ⟨b, 2, none⟩ = some (.int .i64 ((k : Int) + 1)) := h.blk.cell 2
  have c3 : w.cell? ⟨b, 3, none⟩ = some (.int .i64 (0)) := h.blk.cell 3
  have ff : ∀ i, w.frozen? ⟨b, i, none⟩ = false := h.blk.free
  obtain ⟨_, s, m, rfl, hH, ⟨hm, _⟩, _⟩ := HoldsB.of_own h.own
  obtain ⟨g, rfl, hc8, _, ⟨cs, hB8⟩, _⟩ := own_at h.own k (by omega)
  have hcell : w.cell? ⟨g, k, none⟩ = some (.int .u8 bs[k]) := by rw [hc8]; simp
  have hne : b ≠ g := h.blk.ne hB8 (by decide)
  have hne' : g ≠ b := fun e => hne e.symm
  have e1 : IntKind.i64.wrap (k : Int) = (k : Int) := IntWalk.i64_in _ (by omega)
  have e71 : IntKind.i64.wrap ((k : Int) + 1) = (k : Int) + 1 := IntWalk.i64_in _ (by omega)
  have e72 : IntKind.i64.wrap ((k : Int) + 1 + 1) = (k : Int) + 1 + 1 := IntWalk.i64_in _ (by omega)
  have e3 : decide ((0 : Int) < (k : Int) + 1) = true := decide_eq_true (by omega)
  have e8 : (bs[k] == 255) = false := by simp [hs]
  clear hc8 hB8 h
  go_enter Try.func69, Try.ntmps69
  go_wp2_with fail
  go_quiet (fail)
  generalize nq = nqa at *
  go_wp2_with fail
  go_quiet (fail)
  generalize nq = nqb at *
  go_wp2_with fail
  go_ret2
  have h0 := HR.out.drewN (nqa + nqb)
  have h1 := h0.1.set3 0 (x := 0) rfl
  exact ⟨rfl, h1.1, h0.2.trans h1.2⟩
theorem sal_t (w : World) (B b : Nat) (bs : List Int) (k : Nat) (hR : Sp w B b bs (k + 1) 0) (hn : k + 1 = bs.length) (hs : bs[k] = 255) (hl : bs.length ≤ 100000000) :
    Calls Try.prog 69 #[.pointer (some ⟨b, 0, none⟩)] w (SpGives B b bs (k + 1) 0 0 7 w) := by
  have HR := Lib.hid hR
  obtain ⟨sv, h⟩ := hR
  have c0 : w.cell? ⟨b, 0, none⟩ = some (.bool true) := h.blk.cell 0
  have c1 : w.cell? ⟨b, 1, none⟩ = some sv := h.blk.cell 1
  have c2 : w.cell? ⟨b, 2, none⟩ = some (.int .i64 ((k : Int) + 1)) := h.blk.cell 2
  have c3 : w.cell? ⟨b, 3, none⟩ = some (.int .i64 (0)) := h.blk.cell 3
  have ff : ∀ i, w.frozen? ⟨b, i, none⟩ = false := h.blk.free
  obtain ⟨_, s, m, rfl, hH, ⟨hm, _⟩, _⟩ := HoldsB.of_own h.own
  obtain ⟨g, rfl, hc8, _, ⟨cs, hB8⟩, _⟩ := own_at h.own k (by omega)
  have hcell : w.cell? ⟨g, k, none⟩ = some (.int .u8 bs[k]) := by rw [hc8]; simp
  have hne : b ≠ g := h.blk.ne hB8 (by decide)
  have hne' : g ≠ b := fun e => hne e.symm
  have e1 : IntKind.i64.wrap (k : Int) = (k : Int) := IntWalk.i64_in _ (by omega)
  have e71 : IntKind.i64.wrap ((k : Int) + 1) = (k : Int) + 1 := IntWalk.i64_in _ (by omega)
  have e72 : IntKind.i64.wrap ((k : Int) + 1 + 1) = (k : Int) + 1 + 1 := IntWalk.i64_in _ (by omega)
  have e3 : decide ((0 : Int) < (k : Int) + 1) = true := decide_eq_true (by omega)
  have e4 : (bs.length : Int) = (k : Int) + 1 := by omega
  clear hc8 hB8 h
  go_enter Try.func69, Try.ntmps69
  go_wp2_with fail
  go_quiet (fail)
  generalize nq = nqa at *
  go_wp2_with fail
  go_quiet (fail)
  generalize nq = nqb at *
  go_wp2_with fail
  go_quiet (fail)
  go_wp2_with fail
  go_ret2
  have h0 := HR.out.drewN nqa
  have h1 := h0.1.drewN nqb
  have h2 := h1.1.drewN nq
  exact ⟨rfl, h2.1, (h0.2.trans h1.2).trans h2.2⟩
theorem sal_s0 (w : World) (B b : Nat) (bs : List Int) (k : Nat) (hR : Sp w B b bs (k + 1) 0) (hn : k + 1 < bs.length) (hs : bs[k] = 255) (hz : bs[k + 1] = 0) (hl : bs.length ≤ 100000000) :
    Calls Try.prog 69 #[.pointer (some ⟨b, 0, none⟩)] w (SpGives B b bs (k + 2) 0 ((k : Int) + 2) 0 w) := by
  have HR := Lib.hid hR
  obtain ⟨sv, h⟩ := hR
  have c0 : w.cell? ⟨b, 0, none⟩ = some (.bool true) := h.blk.cell 0
  have c1 : w.cell? ⟨b, 1, none⟩ = some sv := h.blk.cell 1
  have c2 : w.cell? ⟨b, 2, none⟩ = some (.int .i64 ((k : Int) + 1)) := h.blk.cell 2
  have c3 : w.cell? ⟨b, 3, none⟩ = some (.int .i64 (0)) := h.blk.cell 3
  have ff : ∀ i, w.frozen? ⟨b, i, none⟩ = false := h.blk.free
  obtain ⟨_, s, m, rfl, hH, ⟨hm, _⟩, _⟩ := HoldsB.of_own h.own
  obtain ⟨g, rfl, hc8, _, ⟨cs, hB8⟩, _⟩ := own_at h.own k (by omega)
  have hcell : w.cell? ⟨g, k, none⟩ = some (.int .u8 bs[k]) := by rw [hc8]; simp
  have hne : b ≠ g := h.blk.ne hB8 (by decide)
  have hne' : g ≠ b := fun e => hne e.symm
  have e1 : IntKind.i64.wrap (k : Int) = (k : Int) := IntWalk.i64_in _ (by omega)
  have e71 : IntKind.i64.wrap ((k : Int) + 1) = (k : Int) + 1 := IntWalk.i64_in _ (by omega)
  have e72 : IntKind.i64.wrap ((k : Int) + 1 + 1) = (k : Int) + 1 + 1 := IntWalk.i64_in _ (by omega)
  have e3 : decide ((0 : Int) < (k : Int) + 1) = true := decide_eq_true (by omega)
  obtain ⟨g', hg', hc7, _, _, _⟩ := own_at h.own (k + 1) hn
  have hg2 : g' = g := by simpa using hg'.symm
  rw [hg2] at hc7
  have hcell2 : w.cell? ⟨g, k + 1, none⟩ = some (.int .u8 bs[k + 1]) := by rw [hc7]; simp
  have e4 : ¬ (bs.length : Int) ≤ (k : Int) + 1 := by omega
  have e41 : decide ((bs.length : Int) ≤ (k : Int) + 1) = false := decide_eq_false e4
  clear hg' hg2 hc7 hc8 hB8 h
  go_enter Try.func69, Try.ntmps69
  go_wp2_with fail
  go_quiet (fail)
  generalize nq = nqa at *
  go_wp2_with fail
  go_quiet (fail)
  generalize nq = nqb at *
  go_wp2_with fail
  go_quiet (fail)
  generalize nq = nqc at *
  go_wp2_with fail
  go_quiet (fail)
  generalize nq = nqd at *
  go_wp2_with fail
  go_ret2
  have h0 := HR.out.drewN (nqa + nqb + nqc + nqd)
  have h1 := h0.1.set2 (k + 2) (x := (k : Int) + 1 + 1) (by omega)
  have h2 := h1.1.set3 0 (x := 0) rfl
  refine ⟨?_, h2.1, h0.2.trans (h1.2.trans h2.2)⟩
  simp
  omega
theorem sal_s1 (w : World) (B b : Nat) (bs : List Int) (k : Nat) (hR : Sp w B b bs (k + 1) 0) (hn : k + 1 < bs.length) (hs : bs[k] = 255) (hz : bs[k + 1] ≠ 0) (hl : bs.length ≤ 100000000) :
    Calls Try.prog 69 #[.pointer (some ⟨b, 0, none⟩)] w (SpGives B b bs (k + 1) 0 0 8 w) := by
  have HR := Lib.hid hR
  obtain ⟨sv, h⟩ := hR
  have c0 : w.cell? ⟨b, 0, none⟩ = some (.bool true) := h.blk.cell 0
  have c1 : w.cell? ⟨b, 1, none⟩ = some sv := h.blk.cell 1
  have c2 : w.cell? ⟨b, 2, none⟩ = some (.int .i64 ((k : Int) + 1)) := h.blk.cell 2
  have c3 : w.cell? ⟨b, 3, none⟩ = some (.int .i64 (0)) := h.blk.cell 3
  have ff : ∀ i, w.frozen? ⟨b, i, none⟩ = false := h.blk.free
  obtain ⟨_, s, m, rfl, hH, ⟨hm, _⟩, _⟩ := HoldsB.of_own h.own
  obtain ⟨g, rfl, hc8, _, ⟨cs, hB8⟩, _⟩ := own_at h.own k (by omega)
  have hcell : w.cell? ⟨g, k, none⟩ = some (.int .u8 bs[k]) := by rw [hc8]; simp
  have hne : b ≠ g := h.blk.ne hB8 (by decide)
  have hne' : g ≠ b := fun e => hne e.symm
  have e1 : IntKind.i64.wrap (k : Int) = (k : Int) := IntWalk.i64_in _ (by omega)
  have e71 : IntKind.i64.wrap ((k : Int) + 1) = (k : Int) + 1 := IntWalk.i64_in _ (by omega)
  have e72 : IntKind.i64.wrap ((k : Int) + 1 + 1) = (k : Int) + 1 + 1 := IntWalk.i64_in _ (by omega)
  have e3 : decide ((0 : Int) < (k : Int) + 1) = true := decide_eq_true (by omega)
  obtain ⟨g', hg', hc7, _, _, _⟩ := own_at h.own (k + 1) hn
  have hg2 : g' = g := by simpa using hg'.symm
  rw [hg2] at hc7
  have hcell2 : w.cell? ⟨g, k + 1, none⟩ = some (.int .u8 bs[k + 1]) := by rw [hc7]; simp
  have e4 : ¬ (bs.length : Int) ≤ (k : Int) + 1 := by omega
  have e41 : decide ((bs.length : Int) ≤ (k : Int) + 1) = false := decide_eq_false e4
  have e9 : (bs[k + 1] == 0) = false := by simpa using hz
  have e91 : (bs[k + 1] != 0) = true := by simpa using hz
  clear hg' hg2 hc7 hc8 hB8 h
  go_enter Try.func69, Try.ntmps69
  go_wp2_with fail
  go_quiet (fail)
  generalize nq = nqa at *
  go_wp2_with fail
  go_quiet (fail)
  generalize nq = nqb at *
  go_wp2_with fail
  go_quiet (fail)
  generalize nq = nqc at *
  go_wp2_with fail
  go_quiet (fail)
  go_wp2_with fail
  go_ret2
  have h0 := HR.out.drewN nqa
  have h1 := h0.1.drewN nqb
  have h2 := h1.1.drewN nqc
  have h3 := h2.1.drewN nq
  exact ⟨rfl, h3.1, ((h0.2.trans h1.2).trans h2.2).trans h3.2⟩
theorem sal_0 (w : World) (B b : Nat) (bs : List Int) (hR : Sp w B b bs 0 0) (_hl : bs.length ≤ 100000000) :
    Calls Try.prog 69 #[.pointer (some ⟨b, 0, none⟩)] w (SpGives B b bs 0 0 0 0 w) := by
  have HR := Lib.hid hR
  obtain ⟨sv, h⟩ := hR
  have c0 : w.cell? ⟨b, 0, none⟩ = some (.bool true) := h.blk.cell 0
  have c1 : w.cell? ⟨b, 1, none⟩ = some sv := h.blk.cell 1
  have c2 : w.cell? ⟨b, 2, none⟩ = some (.int .i64 (0)) := h.blk.cell 2
  have c3 : w.cell? ⟨b, 3, none⟩ = some (.int .i64 (0)) := h.blk.cell 3
  have ff : ∀ i, w.frozen? ⟨b, i, none⟩ = false := h.blk.free
  obtain ⟨_, s, m, rfl, hH, ⟨hm, _⟩, _⟩ := HoldsB.of_own h.own
  clear h
  go_enter Try.func69, Try.ntmps69
  go_wp2_with fail
  go_quiet (fail)
  generalize nq = nqa at *
  go_wp2_with fail
  go_quiet (fail)
  generalize nq = nqb at *
  go_wp2_with fail
  go_ret2
  have h0 := HR.out.drewN (nqa + nqb)
  have h1 := h0.1.set3 0 (x := 0) rfl
  exact ⟨rfl, h1.1, h0.2.trans h1.2⟩
end Go.Proofs.Ytdhjmbjpigiadaa
