/-
  The reference's reader of layer 9 in memory: NewReader, Get.
-/
import Derived.Test.YtaddendclipkkaaEx9
import Derived.Test.YtaddendclipkkaaTx
import Derived.Laws.AppendOwn
import Derived.Maps.AppendAt
set_option maxRecDepth 100000
namespace Go.Proofs.Ytaddendclipkkaa
open Go.RowKit

/-- The reference's reader at a block: the row of its bytes, its place, the bits left. -/
structure SpC (w : World) (B b : Nat) (sv : Value) (bs : List Int) (p q : Nat) : Prop where
  ge : B ≤ b
  blk : Blk w b 84 #[.bool true, sv, .int .i64 p, .int .i64 q]
  own : w.ownsRow B 5 1 sv bs.length (bs.map (Value.int .u8))
def Sp (w : World) (B b : Nat) (bs : List Int) (p q : Nat) : Prop := ∃ sv, SpC w B b sv bs p q
theorem Sp.ok {w : World} {B b : Nat} {bs : List Int} {p q : Nat} (h : Sp w B b bs p q) : w.cell? ⟨b, 0, none⟩ = some (.bool true) := h.elim fun _ h => h.blk.cell 0
theorem Sp.lt {w : World} {B b : Nat} {bs : List Int} {p q : Nat} (h : Sp w B b bs p q) : b < w.heap.size := h.elim fun _ h => h.blk.lt
theorem Sp.ge {w : World} {B b : Nat} {bs : List Int} {p q : Nat} (h : Sp w B b bs p q) : B ≤ b := h.elim fun _ h => h.ge
theorem Sp.foot {w : World} {B b : Nat} {bs : List Int} {p q : Nat} (h : Sp w B b bs p q) (k : Nat) (hk : Fp w b k) : B ≤ k ∧ k < w.heap.size := by
  obtain ⟨sv, h⟩ := h
  rcases hk with rfl | ⟨v, hv, hk⟩
  · exact ⟨h.ge, h.blk.lt⟩
  · rw [show w.cell? ⟨b, 1, none⟩ = some sv from h.blk.cell 1] at hv
    obtain rfl := Option.some.inj hv
    exact h.own.lt k hk
theorem Sp.out {w w1 : World} {B b : Nat} {bs : List Int} {p q : Nat} (h : Sp w B b bs p q) (k : Kp b w w1) : Below B w w1 := k.below (fun i hi => (h.foot i hi).1) (by have := h.ge; have := h.lt; omega)
theorem Sp.keep {w w1 : World} {B b : Nat} {bs : List Int} {p q : Nat} (h : Sp w B b bs p q) (hk : ∀ k, Fp w b k → w1.heap[k]? = w.heap[k]?) : Sp w1 B b bs p q := by
  obtain ⟨sv, h⟩ := h
  refine ⟨sv, h.ge, (hk b (.inl rfl)).trans h.blk, ?_⟩
  obtain ⟨h1, h2⟩ := h.own
  refine ⟨h1, ?_⟩
  rcases h2 with h2 | ⟨g, cap, cur, hv, h3, h4, h5⟩
  · exact .inl h2
  · exact .inr ⟨g, cap, cur, hv, h3, (hk g (.inr ⟨sv, h.blk.cell 1, by rw [hv]; rfl⟩)).trans h4, h5⟩
theorem Sp.below {w w1 : World} {B b : Nat} {bs : List Int} {p q : Nat} (h : Sp w B b bs p q) (hb : Below w.heap.size w w1) : Sp w1 B b bs p q := h.keep fun k hk => hb.block k (h.foot k hk).2
theorem Sp.set2 {w : World} {B b : Nat} {bs : List Int} {p q : Nat} (h : Sp w B b bs p q) (p' : Nat) {x : Int} (hx : x = p') : Sp (w.setCell ⟨b, 2, none⟩ (.int .i64 x)) B b bs p' q ∧ Kp b w (w.setCell ⟨b, 2, none⟩ (.int .i64 x)) := by
  subst hx
  obtain ⟨sv, h⟩ := h
  exact ⟨⟨sv, h.ge, h.blk.set 2 _, own_far h.own ⟨b, 2, none⟩ _ (own_blk_ne h.own h.blk (by decide))⟩, (Kp.refl b w).set h.blk.lt (by decide) _⟩
theorem Sp.set3 {w : World} {B b : Nat} {bs : List Int} {p q : Nat} (h : Sp w B b bs p q) (q' : Nat) {x : Int} (hx : x = q') : Sp (w.setCell ⟨b, 3, none⟩ (.int .i64 x)) B b bs p q' ∧ Kp b w (w.setCell ⟨b, 3, none⟩ (.int .i64 x)) := by
  subst hx
  obtain ⟨sv, h⟩ := h
  exact ⟨⟨sv, h.ge, h.blk.set 3 _, own_far h.own ⟨b, 3, none⟩ _ (own_blk_ne h.own h.blk (by decide))⟩, (Kp.refl b w).set h.blk.lt (by decide) _⟩
theorem Sp.drewN {w : World} {B b : Nat} {bs : List Int} {p q : Nat} (h : Sp w B b bs p q) (n : Nat) : Sp (w.drewN n) B b bs p q ∧ Kp b w (w.drewN n) := ⟨h.below (below_drewN w n), Kp.of_below (below_drewN w n) h.lt⟩
/-- After a call of the reference's reader. -/
def SpGives (B b : Nat) (bs : List Int) (p q : Nat) (v c : Int) (w : World) (e : Ending) (w' : World) : Prop := e = .returned (.tuple #[.int .i64 v, .int .i64 c]) ∧ Sp w' B b bs p q ∧ Kp b w w'
theorem snew_some (w : World) (bs : List Int) (p : Addr) (m : Nat) (hH : HoldsB w (some p) bs) (hl : bs.length ≤ 1000000000) :
    Calls Try.prog 15 #[.slice (some p) bs.length m] w fun e w' => ∃ a, e = .returned (.pointer (some ⟨a, 0, none⟩)) ∧ Sp w' w.heap.size a bs 0 0 ∧ Below w.heap.size w w' := by
  obtain ⟨i0, hi, hz0, hz1, hz2⟩ := info_parts info8
  have HN := Lib.hid (fun X => holdsB_list (hH.call ((Below.refl w.heap.size w).alloc (Nat.le_refl _) X)))
  have HA := Lib.hid (fun X => (Below.refl w.heap.size w).alloc (Nat.le_refl _) X)
  go_enter Try.func15, Try.ntmps15
  go_wp2_with (first | (at_builtin; refine wpList_append_own_at _ rfl _ _ 22 rfl w.heap.size 5 i0 (.int .u8 0) 1 1 Try.underlying22 hi hz0 hz1 hz2 rfl (by decide) _ 0 [] rfl (World.ownsRow_made w #[] 0 (Nat.le_refl _) (by decide) (by simp)) p bs.length m (bs.map (Value.int .u8)) rfl (by simp) (HN.out _) (one8 bs) (by unfold maxLen; omega) (by omega) (by simp) ?_))
  intro v' w2 hown hgrow _ hat
  have hown2 : w2.ownsRow w.heap.size 5 1 v' bs.length (bs.map (Value.int .u8)) := by simpa using hown
  have hb : Below w.heap.size w w2 := (HA.out _).grown hgrow (by simp) (fun k hk => by simp [Value.ownBlock] at hk; omega)
  obtain ⟨_, s5, m5, rfl, _, _⟩ := HoldsB.of_own hown2
  have HO := Lib.hid hown2
  have HB := Lib.hid hb
  clear hown hown2 hgrow hat hb
  go_wp2_with fail
  go_ret
  refine ⟨_, rfl, ⟨.slice s5 bs.length m5, HB.out.size, Blk.new w2 84 _, own_below HO.out ((Below.refl _ _).alloc (Nat.le_refl _) _)⟩, HB.out.alloc HB.out.size _⟩
theorem sget_t (w : World) (B b : Nat) (bs : List Int) (p : Nat) (hR : Sp w B b bs p 0) (ht : p = bs.length) (_hl : bs.length ≤ 100000000) :
    Calls Try.prog 17 #[.pointer (some ⟨b, 0, none⟩)] w (SpGives B b bs p 0 0 7 w) := by
  subst ht
  have HR := Lib.hid hR
  obtain ⟨sv, h⟩ := hR
  have c0 : w.cell? ⟨b, 0, none⟩ = some (.bool true) := h.blk.cell 0
  have c1 : w.cell? ⟨b, 1, none⟩ = some sv := h.blk.cell 1
  have c2 : w.cell? ⟨b, 2, none⟩ = some (.int .i64 bs.length) := h.blk.cell 2
  have c3 : w.cell? ⟨b, 3, none⟩ = some (.int .i64 0) := h.blk.cell 3
  obtain ⟨_, s, m, rfl, _, _, _⟩ := HoldsB.of_own h.own
  clear h
  go_enter Try.func17, Try.ntmps17
  go_wp2_with fail
  go_quiet (fail)
  go_wp2_with fail
  go_ret2
  exact ⟨rfl, HR.out.drewN _⟩
theorem sget_r (w : World) (B b : Nat) (bs : List Int) (n q : Nat) (hR : Sp w B b bs (n + 1) (q + 1)) (hn : n < bs.length) (hq : q ≤ 7) (hx : 0 ≤ bs[n] ∧ bs[n] ≤ 255) (hl : bs.length ≤ 100000000) :
    Calls Try.prog 17 #[.pointer (some ⟨b, 0, none⟩)] w (SpGives B b bs (n + 1) q (bs[n] / 2 ^ q % 2) 0 w) := by
  have HR := Lib.hid hR
  obtain ⟨sv, h⟩ := hR
  have c0 : w.cell? ⟨b, 0, none⟩ = some (.bool true) := h.blk.cell 0
  have c1 : w.cell? ⟨b, 1, none⟩ = some sv := h.blk.cell 1
  have c2 : w.cell? ⟨b, 2, none⟩ = some (.int .i64 ((n : Int) + 1)) := h.blk.cell 2
  have c3 : w.cell? ⟨b, 3, none⟩ = some (.int .i64 ((q : Int) + 1)) := h.blk.cell 3
  have f := h.blk.free
  obtain ⟨_, s, m, rfl, hH, ⟨hm, _⟩, _⟩ := HoldsB.of_own h.own
  obtain ⟨g, rfl, hc8, _, ⟨cs, hB8⟩, _⟩ := own_at h.own n hn
  have hcell : w.cell? ⟨g, n, none⟩ = some (.int .u8 bs[n]) := by rw [hc8]; simp
  have hne : b ≠ g := h.blk.ne hB8 (by decide)
  have hne' : g ≠ b := fun e => hne e.symm
  clear hc8 hB8
  have ff : ∀ i, w.frozen? ⟨b, i, none⟩ = false := f
  have hp := pow8 (k := q) (by omega)
  have hX : 0 ≤ bs[n] / 2 ^ q ∧ bs[n] / 2 ^ q ≤ 255 := ⟨Int.ediv_nonneg hx.1 (by omega), Int.le_trans (Int.ediv_le_self _ hx.1) hx.2⟩
  have e1 : IntKind.i64.wrap ((n : Int) + 1) = (n : Int) + 1 := IntWalk.i64_in _ (by omega)
  have e2 : IntKind.i64.wrap (n : Int) = (n : Int) := IntWalk.i64_in _ (by omega)
  have e3 : IntKind.i64.wrap (q : Int) = (q : Int) := IntWalk.i64_in _ (by omega)
  have e4 : IntKind.u64.wrap (q : Int) = (q : Int) := by rw [IntKind.wrap_u64]; omega
  have e5 : ((q : Int) + 1 == 0) = false := by simp; omega
  have ha := and1
  generalize bs[n] = X at *
  have e6 : IntKind.i64.wrap X = X := IntWalk.i64_in _ (by omega)
  have hq1 : (q : Int) ≤ 7 := by omega
  clear h f
  go_enter Try.func17, Try.ntmps17
  go_wp2_with fail
  go_quiet (fail)
  go_wp2_with fail
  go_ret2
  have h3 := HR.out.set3 q (x := (q : Int)) rfl
  exact ⟨rfl, (h3.1.drewN _).1, h3.2.trans (h3.1.drewN _).2⟩
theorem sget_0 (w : World) (B b : Nat) (bs : List Int) (n : Nat) (hR : Sp w B b bs n 0) (hn0 : n = 0) (hn : n < bs.length) (hx : 0 ≤ bs[n] ∧ bs[n] ≤ 255) (hl : bs.length ≤ 100000000) :
    Calls Try.prog 17 #[.pointer (some ⟨b, 0, none⟩)] w (SpGives B b bs (n + 1) 7 (bs[n] / 128 % 2) 0 w) := by
  have HR := Lib.hid hR
  obtain ⟨sv, h⟩ := hR
  have c0 : w.cell? ⟨b, 0, none⟩ = some (.bool true) := h.blk.cell 0
  have c1 : w.cell? ⟨b, 1, none⟩ = some sv := h.blk.cell 1
  have c2 : w.cell? ⟨b, 2, none⟩ = some (.int .i64 n) := h.blk.cell 2
  have c3 : w.cell? ⟨b, 3, none⟩ = some (.int .i64 0) := h.blk.cell 3
  have f := h.blk.free
  obtain ⟨_, s, m, rfl, hH, ⟨hm, _⟩, _⟩ := HoldsB.of_own h.own
  obtain ⟨g, rfl, hc8, _, ⟨cs, hB8⟩, _⟩ := own_at h.own n hn
  have hcell : w.cell? ⟨g, n, none⟩ = some (.int .u8 bs[n]) := by rw [hc8]; simp
  have hne : b ≠ g := h.blk.ne hB8 (by decide)
  have hne' : g ≠ b := fun e => hne e.symm
  clear hc8 hB8
  have ff : ∀ i, w.frozen? ⟨b, i, none⟩ = false := f
  have ha := and1
  have e4 : ¬ (bs.length : Int) ≤ (n : Int) := by omega
  have e41 : decide ((bs.length : Int) ≤ (n : Int)) = false := decide_eq_false e4
  have e40 : ¬ (0 : Int) < (n : Int) := by omega
  have e42 : decide ((0 : Int) < (n : Int)) = false := decide_eq_false e40
  have e43 : decide (0 < n) = false := decide_eq_false (by omega)
  have e7 : IntKind.i64.wrap (n : Int) = n := IntWalk.i64_in _ (by omega)
  have e71 : IntKind.i64.wrap ((n : Int) + 1) = (n : Int) + 1 := IntWalk.i64_in _ (by omega)
  generalize hX0 : bs[n] = X at *
  have HX := Lib.hid hX0
  clear hX0
  have e6 : IntKind.i64.wrap X = X := IntWalk.i64_in _ (by omega)
  have HN0 := Lib.hid hn0
  clear h f hn0
  go_enter Try.func17, Try.ntmps17
  go_wp2_with fail
  go_quiet (fail)
  generalize nq = nqa at *
  go_wp2_with fail
  go_quiet (fail)
  generalize nq = nqb at *
  go_upto_region 14 with fail
  have h0 := HR.out.drewN (nqa + nqb)
  have h1 := h0.1.set2 (n + 1) (x := (n : Int) + 1) (by omega)
  have h2 := h1.1.set3 8 (x := 8) rfl
  have h3 := h2.1.set3 7 (x := 7) rfl
  have HK := Lib.hid (h0.2.trans (h1.2.trans (h2.2.trans h3.2)))
  have hT := h3.1
  clear h0 h1 h2 h3 c0 c1 c2 c3
  generalize (((w.drewN (nqa + nqb)).setCell ⟨b, 2, none⟩ (.int .i64 ((n : Int) + 1))).setCell ⟨b, 3, none⟩ (.int .i64 8)).setCell ⟨b, 3, none⟩ (.int .i64 7) = w1 at *
  have HT := Lib.hid hT
  obtain ⟨sv, h⟩ := hT
  have c1 : w1.cell? ⟨b, 1, none⟩ = some sv := h.blk.cell 1
  have c2 : w1.cell? ⟨b, 2, none⟩ = some (.int .i64 ((n : Int) + 1)) := h.blk.cell 2
  have c3 : w1.cell? ⟨b, 3, none⟩ = some (.int .i64 7) := h.blk.cell 3
  obtain ⟨_, s', m', rfl, _, _, _⟩ := HoldsB.of_own h.own
  obtain ⟨g', rfl, hc8, _, _, _⟩ := own_at h.own (n) hn
  have hcell1 : w1.cell? ⟨g', n, none⟩ = some (.int .u8 X) := by rw [hc8, List.getElem?_map, List.getElem?_eq_getElem hn, HX.out]; rfl
  clear h hc8
  go_quiet (fail)
  go_wp2_with fail
  go_ret2
  exact ⟨rfl, (HT.out.drewN _).1, HK.out.trans (HT.out.drewN _).2⟩
theorem sget_n (w : World) (B b : Nat) (bs : List Int) (k : Nat) (hR : Sp w B b bs (k + 1) 0) (hn : k + 1 < bs.length) (hs : bs[k] ≠ 255) (hx : 0 ≤ bs[k + 1] ∧ bs[k + 1] ≤ 255) (hl : bs.length ≤ 100000000) :
    Calls Try.prog 17 #[.pointer (some ⟨b, 0, none⟩)] w (SpGives B b bs (k + 2) 7 (bs[k + 1] / 128 % 2) 0 w) := by
  have HR := Lib.hid hR
  obtain ⟨sv, h⟩ := hR
  have c0 : w.cell? ⟨b, 0, none⟩ = some (.bool true) := h.blk.cell 0
  have c1 : w.cell? ⟨b, 1, none⟩ = some sv := h.blk.cell 1
  have c2 : w.cell? ⟨b, 2, none⟩ = some (.int .i64 ((k : Int) + 1)) := h.blk.cell 2
  have c3 : w.cell? ⟨b, 3, none⟩ = some (.int .i64 0) := h.blk.cell 3
  have f := h.blk.free
  obtain ⟨_, s, m, rfl, hH, ⟨hm, _⟩, _⟩ := HoldsB.of_own h.own
  obtain ⟨g, rfl, hc8, _, ⟨cs, hB8⟩, _⟩ := own_at h.own (k + 1) hn
  obtain ⟨g', hg', hc7, _, _, _⟩ := own_at h.own k (by omega)
  have hcell : w.cell? ⟨g, k + 1, none⟩ = some (.int .u8 bs[k + 1]) := by rw [hc8]; simp
  have hg2 : g' = g := by simpa using hg'.symm
  rw [hg2] at hc7
  clear hg' hg2
  have hcellk : w.cell? ⟨g, k, none⟩ = some (.int .u8 bs[k]) := by rw [hc7]; simp
  have hne : b ≠ g := h.blk.ne hB8 (by decide)
  have hne' : g ≠ b := fun e => hne e.symm
  clear hc8 hB8 hc7
  have ff : ∀ i, w.frozen? ⟨b, i, none⟩ = false := f
  have ha := and1
  have e4 : ¬ (bs.length : Int) ≤ (k : Int) + 1 := by omega
  have e41 : decide ((bs.length : Int) ≤ (k : Int) + 1) = false := decide_eq_false e4
  have e42 : decide ((0 : Int) < (k : Int) + 1) = true := decide_eq_true (by omega)
  have e7 : IntKind.i64.wrap (k : Int) = k := IntWalk.i64_in _ (by omega)
  have e71 : IntKind.i64.wrap ((k : Int) + 1) = (k : Int) + 1 := IntWalk.i64_in _ (by omega)
  have e72 : IntKind.i64.wrap ((k : Int) + 1 + 1) = (k : Int) + 1 + 1 := IntWalk.i64_in _ (by omega)
  have e8 : (bs[k] == 255) = false := by simp [hs]
  generalize hX0 : bs[k + 1] = X at *
  have HX := Lib.hid hX0
  clear hX0
  generalize bs[k]'(by omega) = Y at *
  have e6 : IntKind.i64.wrap X = X := IntWalk.i64_in _ (by omega)
  clear h f
  go_enter Try.func17, Try.ntmps17
  go_wp2_with fail
  go_quiet (fail)
  generalize nq = nqa at *
  go_wp2_with fail
  go_quiet (fail)
  generalize nq = nqb at *
  go_upto_region 14 with fail
  have h0 := HR.out.drewN (nqa + nqb)
  have h1 := h0.1.set2 (k + 1 + 1) (x := (k : Int) + 1 + 1) (by omega)
  have h2 := h1.1.set3 8 (x := 8) rfl
  have h3 := h2.1.set3 7 (x := 7) rfl
  have HK := Lib.hid (h0.2.trans (h1.2.trans (h2.2.trans h3.2)))
  have hT := h3.1
  clear h0 h1 h2 h3 c0 c1 c2 c3
  generalize (((w.drewN (nqa + nqb)).setCell ⟨b, 2, none⟩ (.int .i64 ((k : Int) + 1 + 1))).setCell ⟨b, 3, none⟩ (.int .i64 8)).setCell ⟨b, 3, none⟩ (.int .i64 7) = w1 at *
  have HT := Lib.hid hT
  obtain ⟨sv, h⟩ := hT
  have c1 : w1.cell? ⟨b, 1, none⟩ = some sv := h.blk.cell 1
  have c2 : w1.cell? ⟨b, 2, none⟩ = some (.int .i64 ((k : Int) + 1 + 1)) := h.blk.cell 2
  have c3 : w1.cell? ⟨b, 3, none⟩ = some (.int .i64 7) := h.blk.cell 3
  obtain ⟨_, s', m', rfl, _, _, _⟩ := HoldsB.of_own h.own
  obtain ⟨g', rfl, hc8, _, _, _⟩ := own_at h.own (k + 1) hn
  have hcell1 : w1.cell? ⟨g', k + 1, none⟩ = some (.int .u8 X) := by rw [hc8, List.getElem?_map, List.getElem?_eq_getElem hn, HX.out]; rfl
  clear h hc8
  go_quiet (fail)
  go_wp2_with fail
  go_ret2
  exact ⟨rfl, (HT.out.drewN _).1, HK.out.trans (HT.out.drewN _).2⟩
theorem sget_k (w : World) (B b : Nat) (bs : List Int) (k : Nat) (hR : Sp w B b bs (k + 1) 0) (hn : k + 1 < bs.length) (hs : bs[k] = 255) (h8 : bs[k + 1] < 128) (hx : 0 ≤ bs[k + 1] ∧ bs[k + 1] ≤ 255) (hl : bs.length ≤ 100000000) :
    Calls Try.prog 17 #[.pointer (some ⟨b, 0, none⟩)] w (SpGives B b bs (k + 2) 6 (bs[k + 1] / 64 % 2) 0 w) := by
  have HR := Lib.hid hR
  obtain ⟨sv, h⟩ := hR
  have c0 : w.cell? ⟨b, 0, none⟩ = some (.bool true) := h.blk.cell 0
  have c1 : w.cell? ⟨b, 1, none⟩ = some sv := h.blk.cell 1
  have c2 : w.cell? ⟨b, 2, none⟩ = some (.int .i64 ((k : Int) + 1)) := h.blk.cell 2
  have c3 : w.cell? ⟨b, 3, none⟩ = some (.int .i64 0) := h.blk.cell 3
  have f := h.blk.free
  obtain ⟨_, s, m, rfl, hH, ⟨hm, _⟩, _⟩ := HoldsB.of_own h.own
  obtain ⟨g, rfl, hc8, _, ⟨cs, hB8⟩, _⟩ := own_at h.own (k + 1) hn
  obtain ⟨g', hg', hc7, _, _, _⟩ := own_at h.own k (by omega)
  have hcell : w.cell? ⟨g, k + 1, none⟩ = some (.int .u8 bs[k + 1]) := by rw [hc8]; simp
  have hg2 : g' = g := by simpa using hg'.symm
  rw [hg2] at hc7
  clear hg' hg2
  have hcellk : w.cell? ⟨g, k, none⟩ = some (.int .u8 bs[k]) := by rw [hc7]; simp
  have hne : b ≠ g := h.blk.ne hB8 (by decide)
  have hne' : g ≠ b := fun e => hne e.symm
  clear hc8 hB8 hc7
  have ff : ∀ i, w.frozen? ⟨b, i, none⟩ = false := f
  have ha := and1
  have e4 : ¬ (bs.length : Int) ≤ (k : Int) + 1 := by omega
  have e41 : decide ((bs.length : Int) ≤ (k : Int) + 1) = false := decide_eq_false e4
  have e42 : decide ((0 : Int) < (k : Int) + 1) = true := decide_eq_true (by omega)
  have e7 : IntKind.i64.wrap (k : Int) = k := IntWalk.i64_in _ (by omega)
  have e71 : IntKind.i64.wrap ((k : Int) + 1) = (k : Int) + 1 := IntWalk.i64_in _ (by omega)
  have e72 : IntKind.i64.wrap ((k : Int) + 1 + 1) = (k : Int) + 1 + 1 := IntWalk.i64_in _ (by omega)
  have e9 : decide (128 ≤ bs[k + 1]) = false := decide_eq_false (by omega)
  generalize hX0 : bs[k + 1] = X at *
  have HX := Lib.hid hX0
  clear hX0
  generalize bs[k]'(by omega) = Y at *
  have e6 : IntKind.i64.wrap X = X := IntWalk.i64_in _ (by omega)
  clear h f
  go_enter Try.func17, Try.ntmps17
  go_wp2_with fail
  go_quiet (fail)
  generalize nq = nqa at *
  go_wp2_with fail
  go_quiet (fail)
  generalize nq = nqb at *
  go_wp2_with fail
  go_quiet (fail)
  generalize nq = nqc at *
  go_upto_region 14 with fail
  have h0 := HR.out.drewN (nqa + nqb + nqc)
  have h1 := h0.1.set2 (k + 1 + 1) (x := (k : Int) + 1 + 1) (by omega)
  have h2 := h1.1.set3 7 (x := 7) rfl
  have h3 := h2.1.set3 6 (x := 6) rfl
  have HK := Lib.hid (h0.2.trans (h1.2.trans (h2.2.trans h3.2)))
  have hT := h3.1
  clear h0 h1 h2 h3 c0 c1 c2 c3
  generalize (((w.drewN (nqa + nqb + nqc)).setCell ⟨b, 2, none⟩ (.int .i64 ((k : Int) + 1 + 1))).setCell ⟨b, 3, none⟩ (.int .i64 7)).setCell ⟨b, 3, none⟩ (.int .i64 6) = w1 at *
  have HT := Lib.hid hT
  obtain ⟨sv, h⟩ := hT
  have c1 : w1.cell? ⟨b, 1, none⟩ = some sv := h.blk.cell 1
  have c2 : w1.cell? ⟨b, 2, none⟩ = some (.int .i64 ((k : Int) + 1 + 1)) := h.blk.cell 2
  have c3 : w1.cell? ⟨b, 3, none⟩ = some (.int .i64 6) := h.blk.cell 3
  obtain ⟨_, s', m', rfl, _, _, _⟩ := HoldsB.of_own h.own
  obtain ⟨g', rfl, hc8, _, _, _⟩ := own_at h.own (k + 1) hn
  have hcell1 : w1.cell? ⟨g', k + 1, none⟩ = some (.int .u8 X) := by rw [hc8, List.getElem?_map, List.getElem?_eq_getElem hn, HX.out]; rfl
  clear h hc8
  go_quiet (fail)
  go_wp2_with fail
  go_ret2
  exact ⟨rfl, (HT.out.drewN _).1, HK.out.trans (HT.out.drewN _).2⟩
theorem sget_s (w : World) (B b : Nat) (bs : List Int) (k : Nat) (hR : Sp w B b bs (k + 1) 0) (hn : k + 1 < bs.length) (hs : bs[k] = 255) (h8 : 128 ≤ bs[k + 1]) (hx : 0 ≤ bs[k + 1] ∧ bs[k + 1] ≤ 255) (hl : bs.length ≤ 100000000) :
    Calls Try.prog 17 #[.pointer (some ⟨b, 0, none⟩)] w (SpGives B b bs (k + 1) 0 0 8 w) := by
  have HR := Lib.hid hR
  obtain ⟨sv, h⟩ := hR
  have c0 : w.cell? ⟨b, 0, none⟩ = some (.bool true) := h.blk.cell 0
  have c1 : w.cell? ⟨b, 1, none⟩ = some sv := h.blk.cell 1
  have c2 : w.cell? ⟨b, 2, none⟩ = some (.int .i64 ((k : Int) + 1)) := h.blk.cell 2
  have c3 : w.cell? ⟨b, 3, none⟩ = some (.int .i64 0) := h.blk.cell 3
  have f := h.blk.free
  obtain ⟨_, s, m, rfl, hH, ⟨hm, _⟩, _⟩ := HoldsB.of_own h.own
  obtain ⟨g, rfl, hc8, _, ⟨cs, hB8⟩, _⟩ := own_at h.own (k + 1) hn
  obtain ⟨g', hg', hc7, _, _, _⟩ := own_at h.own k (by omega)
  have hcell : w.cell? ⟨g, k + 1, none⟩ = some (.int .u8 bs[k + 1]) := by rw [hc8]; simp
  have hg2 : g' = g := by simpa using hg'.symm
  rw [hg2] at hc7
  clear hg' hg2
  have hcellk : w.cell? ⟨g, k, none⟩ = some (.int .u8 bs[k]) := by rw [hc7]; simp
  have hne : b ≠ g := h.blk.ne hB8 (by decide)
  have hne' : g ≠ b := fun e => hne e.symm
  clear hc8 hB8 hc7
  have ff : ∀ i, w.frozen? ⟨b, i, none⟩ = false := f
  have ha := and1
  have e4 : ¬ (bs.length : Int) ≤ (k : Int) + 1 := by omega
  have e41 : decide ((bs.length : Int) ≤ (k : Int) + 1) = false := decide_eq_false e4
  have e42 : decide ((0 : Int) < (k : Int) + 1) = true := decide_eq_true (by omega)
  have e7 : IntKind.i64.wrap (k : Int) = k := IntWalk.i64_in _ (by omega)
  have e71 : IntKind.i64.wrap ((k : Int) + 1) = (k : Int) + 1 := IntWalk.i64_in _ (by omega)
  have e72 : IntKind.i64.wrap ((k : Int) + 1 + 1) = (k : Int) + 1 + 1 := IntWalk.i64_in _ (by omega)
  have e9 : decide (128 ≤ bs[k + 1]) = true := decide_eq_true h8
  generalize bs[k + 1] = X at *
  generalize bs[k]'(by omega) = Y at *
  have e6 : IntKind.i64.wrap X = X := IntWalk.i64_in _ (by omega)
  clear h f
  go_enter Try.func17, Try.ntmps17
  go_wp2_with fail
  go_quiet (fail)
  generalize nq = nqa at *
  go_wp2_with fail
  go_quiet (fail)
  generalize nq = nqb at *
  go_wp2_with fail
  go_quiet (fail)
  go_wp2_with fail
  go_ret2
  have h0 := HR.out.drewN nqa
  have h1 := h0.1.drewN nqb
  have h2 := h1.1.drewN nq
  exact ⟨rfl, h2.1, (h0.2.trans h1.2).trans h2.2⟩
end Go.Proofs.Ytaddendclipkkaa
