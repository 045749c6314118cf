/-
  Layer 11, the code's encoder: gap, Terminate.
  Layer 11, the code's encoder: Terminate; the codeword is none of the encoder's cells.
-/
import Derived.Test.YtklchodbnjebnaaDoorNC
set_option maxRecDepth 100000
namespace Go.Proofs.YtklchodbnjebnaaDoor
open Go.RowKit

/-- How far the codeword's number lies above low. -/
def gapF (s : Am.St) : Int := if (-s.lo) % 4294967296 < s.rg then (-s.lo) % 4294967296 else (-s.lo) % 16777216
theorem gap_cwv (s : Am.St) : s.lo + gapF s = Am.cwv s := by unfold gapF Am.cwv; split <;> rfl
theorem gap_c (w : World) (B a : Nat) (pv hv : Value) (P : List Int) (s : Am.St) (h : EcC w B a pv hv (P, s)) (_h0 : 0 ≤ s.lo) :
    Calls Tryd.prog 116 #[.pointer (some ⟨a, 0, none⟩)] w fun e w' => e = .returned (.int .u64 (gapF s)) ∧ w = w' := by
  obtain ⟨c0, c1, c2, c3, c4⟩ := h.r.cells
  dsimp only at c3 c4
  unfold gapF
  obtain ⟨t, ht⟩ : ∃ t, t = s.lo % 4294967296 := ⟨_, rfl⟩
  rw [← ht] at c3
  have e1 : (-s.lo) % 4294967296 = (-t) % 18446744073709551616 % 4294967296 := by omega
  have e2 : (-s.lo) % 16777216 = (-t) % 18446744073709551616 % 16777216 := by omega
  have htb : 0 ≤ t ∧ t ≤ 4294967295 := by omega
  rw [e1, e2]
  have e3 : IntKind.u64.wrap (-t) = (-t) % 18446744073709551616 := by rw [IntKind.wrap_u64]
  obtain ⟨z, hz⟩ : ∃ z, z = (-t) % 18446744073709551616 := ⟨_, rfl⟩
  have hzb : 0 ≤ z ∧ z < 18446744073709551616 := by omega
  rw [← hz] at e3 ⊢
  clear h ht e1 e2 hz
  generalize s.rg = r at *
  by_cases hlt : z % 4294967296 < r
  · rw [if_pos hlt]
    go_enter Tryd.func116, Tryd.ntmps116
    go_wp2_with fail
    go_ret
    exact ⟨rfl, rfl⟩
  · rw [if_neg hlt]
    have hge : r ≤ z % 4294967296 := by omega
    go_enter Tryd.func116, Tryd.ntmps116
    go_wp2_with fail
    go_ret
    exact ⟨rfl, rfl⟩
/-- A byte is appended to head, and the encoder doesn't hold the result. -/
theorem EcR.app {w : World} {B a : Nat} {pv hv : Value} {P R : List Int} {t rg : Int} (h : EcR w B a pv hv P R t rg) {w2 : World} {X : Obj} (hg : (w.alloc X).drew.grownBy w2 hv.ownBlock) :
    Blk w2 a 114 #[pv, .pointer (some ⟨a, 0, none⟩), hv, .int .u64 t, .int .u64 rg] ∧ w2.ownsRow B 3 1 pv P.length (P.map (Value.int .i64)) ∧ Kp a w w2 := by
  have hsame : ∀ k, k < w.heap.size → hv.ownBlock ≠ some k → w2.heap[k]? = w.heap[k]? := fun k hk hne => (hg.block k (by simp; omega) (fun e => hne e.symm)).trans (Below.heap_alloc w X k hk)
  have ha := hsame a h.core.lt h.pa.2
  refine ⟨ha.trans h.core.blk, own_keep h.ps fun k ho => ?_, hg.os, hg.tape, hg.output, by have := hg.size; simp at this; omega, fun k hk hf => hsame k hk fun e => hf (h.core.of (i := 2) rfl e), fun k hk => .inl ((fp_same ha k).1 hk)⟩
  obtain ⟨_, ds, hb⟩ := own_foot h.ps ho
  exact hsame k hb.lt fun e => h.apart k ho e
/-- What Terminate returns: a slice over the codeword, none of the encoder's any more. -/
def ETerm (B a : Nat) (x : Am.X) (w : World) (e : Ending) (w' : World) : Prop := ∃ sl m, e = .returned (.slice sl (Am.cw x.2).length m) ∧ HoldsB w' sl (Am.cw x.2) ∧ (Am.cw x.2).length ≤ m ∧ (∀ p, sl = some p → B ≤ p.block ∧ ∃ ds, Blk w' p.block 5 ds) ∧ (sl = none → Am.cw x.2 = [] ∧ m = 0) ∧ AEc w' B a (x.1, Am.St.init) ∧ Kp a w w'
theorem word_eq {s : Am.St} (v : Int) (hv : v % 16777216 = 0) : Am.dig s.n (v / 4294967296) ++ [v % 4294967296 / 16777216] = Am.dig (s.n + 1) (v / 16777216) := by
  rw [Am.dig, show v / 16777216 / 256 = v / 4294967296 by omega, show v / 16777216 % 256 = v % 4294967296 / 16777216 by omega]
theorem word_fin {w2 W5 : World} {B a m2 : Nat} {s2 : Option Addr} {s : Am.St} {v Y : Int} {cs : Array Value} (h24 : v % 16777216 = 0) (hY : Y = v % 4294967296 / 16777216)
    (hown : w2.ownsRow B 5 1 (.slice s2 (s.n + 1) m2) (s.n + 1) ((Am.dig s.n (v / 4294967296)).map (Value.int .u8) ++ [.int .u8 Y])) (hb : Blk w2 a 114 cs)
    (hw : W5 = ((w2.setCell ⟨a, 2, none⟩ (.slice none 0 0)).setCell ⟨a, 3, none⟩ (.int .u64 0)).setCell ⟨a, 4, none⟩ (.int .u64 4294967295)) (hn : s.n + 1 ≤ 1000000000) :
    Hid (W5.ownsRow B 5 1 (.slice s2 (s.n + 1) m2) (s.n + 1) ((Am.dig (s.n + 1) (v / 16777216)).map (Value.int .u8))) ∧
    Hid (Calls Tryd.prog 117 #[.slice s2 (s.n + 1) m2, .string ⟨#[0]⟩] W5 fun e w' => e = .returned (.slice s2 (Am.trim (Am.dig (s.n + 1) (v / 16777216))).length m2) ∧ W5 = w') := by
  have hl : (Am.dig (s.n + 1) (v / 16777216)).length = s.n + 1 := Am.dig_len _ _
  have e : (Am.dig s.n (v / 4294967296)).map (Value.int .u8) ++ [.int .u8 Y] = (Am.dig (s.n + 1) (v / 16777216)).map (Value.int .u8) := by
    rw [hY, ← word_eq v h24, List.map_append]; rfl
  rw [e] at hown
  have hne := own_blk_ne hown hb (by decide)
  have O : W5.ownsRow B 5 1 (.slice s2 (s.n + 1) m2) (s.n + 1) ((Am.dig (s.n + 1) (v / 16777216)).map (Value.int .u8)) := by
    rw [hw]
    exact own_far (own_far (own_far hown ⟨a, 2, none⟩ _ hne) ⟨a, 3, none⟩ _ hne) ⟨a, 4, none⟩ _ hne
  refine ⟨O, ?_⟩
  obtain ⟨_, s', m', he, hH, ⟨hm, _⟩, _⟩ := HoldsB.of_own O
  simp at he
  obtain ⟨rfl, _, rfl⟩ := he
  have := trim_c _ s2 m2 W5 hH hm (by omega)
  rw [hl] at this
  exact this
set_option maxHeartbeats 4000000 in
theorem eterm_c (w : World) (B a : Nat) (x : Am.X) (h : AEc w B a x) (hok : Am.Ok x.2) (hn : x.2.n ≤ 1000000) :
    Calls Tryd.prog 113 #[.pointer (some ⟨a, 0, none⟩)] w (ETerm B a x w) := by
  obtain ⟨P, s⟩ := x
  obtain ⟨pv, hv, h⟩ := h
  obtain ⟨c0, c1, c2, c3, c4⟩ := h.r.cells
  dsimp only at hok hn
  have hin := Am.cwv_in hok
  have hg := gap_c w B a pv hv P s h hok.lo
  have hcv := gap_cwv s
  unfold Am.In at hin
  have h24 := Am.cwv_24 s
  have htop := hok.top
  have hr2 := hok.r2
  have hR := raise_c w B a pv hv P s (gapF s) h hok.lo (by omega) (by omega) (by omega) (by omega)
  unfold Raised at hR
  rw [hcv] at hR
  obtain ⟨v, hvv⟩ : ∃ v, v = Am.cwv s := ⟨_, rfl⟩
  rw [← hvv] at hR h24 hin
  have hv0 : 0 ≤ v := by have := hok.lo; omega
  have HV := Lib.hid hvv
  have H := Lib.hid h
  have HOK := Lib.hid hok
  have H24 := Lib.hid h24
  have hlt := h.core.lt
  have hge := h.core.ge
  generalize gapF s = G at *
  clear h hok hcv hvv h24 htop hin hr2 c0 c2 c3 c4
  go_enter Tryd.func113, Tryd.ntmps113
  go_wp2_with (first | (go_at_call 114; (with_reducible refine (emade_y _ _ c1).mono ?_); rintro e wn ⟨rfl, rfl⟩) | (go_at_call 116; (with_reducible refine hg.mono ?_); rintro e wn ⟨rfl, rfl⟩) | (go_at_call 115; (with_reducible refine hR.mono ?_); rintro e W3 ⟨rfl, hE3, hK3⟩))
  obtain ⟨d0, d1, d2, d3, d4⟩ := hE3.r.cells
  dsimp only at d0 d2 d3 d4
  have df := hE3.core.blk.free
  obtain ⟨sh, mh, rfl⟩ := own_slice hE3.hd
  dsimp only at d2
  have hHD := hE3.hd
  dsimp only at hHD
  have HE3 := Lib.hid hE3
  have HK3 := Lib.hid hK3
  obtain ⟨T, hT⟩ : ∃ T, T = v % 4294967296 := ⟨_, rfl⟩
  rw [← hT] at d3
  have htb : 0 ≤ T ∧ T ≤ 4294967295 := by omega
  obtain ⟨Y, hY⟩ : ∃ Y, Y = T / 16777216 := ⟨_, rfl⟩
  have eY : IntKind.u8.wrap (T / 16777216) = Y := by rw [IntKind.wrap_u8, hY]; omega
  have HT : Hid (Y = v % 4294967296 / 16777216) := by show _ = _; rw [hY, hT]
  obtain ⟨i0, hi, hz0, hz1, hz2⟩ := info_parts info8
  have HO2 : Hid ((W3.alloc (.cells #[.int .u8 Y] 5)).drew.ownsRow B 5 1 (.slice sh s.n mh) s.n ((Am.dig s.n (v / 4294967296)).map (Value.int .u8))) := own_below hHD (((Below.refl _ _).alloc (Nat.le_refl _) _).drew)
  have HNW : Hid (∀ j u, ([.int .u8 Y] : List Value)[j]? = some u → (W3.alloc (.cells #[.int .u8 Y] 5)).drew.cell? ((⟨W3.heap.size, 0, none⟩ : Addr).add j) = some u) := one_new8 W3 _ _
  have da2 : (W3.alloc (.cells #[.int .u8 Y] 5)).drew.cell? ⟨a, 2, none⟩ = some (.slice sh s.n mh) := cell_alloc d2 _
  have F : Hid (s.n + 1 ≤ maxLen ∧ (s.n + 1) * 1 ≤ 140737488355328 ∧ B ≤ (W3.alloc (.cells #[.int .u8 Y] 5)).drew.heap.size) := ⟨by unfold maxLen; omega, by omega, by have := hK3.size; simp; omega⟩
  clear hT hY hHD hE3 hK3 hR hg d0 d1 d4
  go_region_law (first | (refine step_append_at rfl (.tmp 14) (.tmp 21) 23 rfl B 5 i0 (.int .u8 0) 1 1 Tryd.underlying23 hi hz0 hz1 hz2 rfl (by decide) _ s.n _ rfl HO2.out ⟨W3.heap.size, 0, none⟩ 1 1 [.int .u8 Y] rfl rfl HNW.out (oneOne8 _) F.out.1 F.out.2.1 F.out.2.2 ?_; intro v2 w2 hown hgr hat; have X2 := Lib.hid (HE3.out.r.app hgr); have O2 := Lib.hid hown; obtain ⟨s2, m2, rfl⟩ := own_slice hown; clear hown hgr hat) | fail)
  all_goals
    have hbg := begin_c w2 B a _ _ _ _ P hge X2.out.1 X2.out.2.1
    clear d2 d3 da2 df eY
    go_wp2_with (first | (go_at_call 52; (with_reducible refine hbg.mono ?_); rintro e W5 ⟨rfl, hE5, hK5, hw5⟩; obtain ⟨HOW, HTC⟩ := word_fin (s := s) H24.out HT.out O2.out X2.out.1 hw5 (by omega); clear hw5) | (go_at_call 117; (with_reducible refine HTC.out.mono ?_); rintro e wn ⟨rfl, rfl⟩))
    go_ret
    have hcw : Am.cw s = Am.trim (Am.dig (s.n + 1) (v / 16777216)) := by rw [HV.out]; rfl
    obtain ⟨_, s', m', he, hH, ⟨hm, _⟩, hs'⟩ := HoldsB.of_own HOW.out
    simp at he
    obtain ⟨rfl, _, rfl⟩ := he
    have hpre := Am.trim_pre (Am.dig (s.n + 1) (v / 16777216))
    refine ⟨s2, m2, by rw [hcw]; rfl, ?_, by rw [hcw]; omega, fun p hp => ?_, fun h0 => ?_, ⟨_, _, hE5⟩, (HK3.out.trans X2.out.2.2).trans hK5⟩
    · rw [hcw, hpre.2.1]; exact hH.take _
    · subst hp; exact own_foot HOW.out rfl
    · have := (hs' h0).1
      have hl : (Am.dig (s.n + 1) (v / 16777216)).length = s.n + 1 := Am.dig_len _ _
      rw [this] at hl; simp at hl
end Go.Proofs.YtklchodbnjebnaaDoor
set_option maxRecDepth 100000
namespace Go.Proofs.YtklchodbnjebnaaDoor
open Go.RowKit

/-- What Terminate returns: a slice over the codeword, none of the encoder's any more. -/
def ETerm2 (B a : Nat) (x : Am.X) (w : World) (e : Ending) (w' : World) : Prop := ∃ sl m, e = .returned (.slice sl (Am.cw x.2).length m) ∧ HoldsB w' sl (Am.cw x.2) ∧ (Am.cw x.2).length ≤ m ∧ (∀ p, sl = some p → B ≤ p.block ∧ (∃ ds, Blk w' p.block 5 ds) ∧ ¬ Fp w' a p.block ∧ (Fp w a p.block ∨ w.heap.size ≤ p.block)) ∧ (sl = none → Am.cw x.2 = [] ∧ m = 0) ∧ AEc w' B a (x.1, Am.St.init) ∧ Kp a w w'
set_option maxHeartbeats 4000000 in
theorem eterm2_c (w : World) (B a : Nat) (x : Am.X) (h : AEc w B a x) (hok : Am.Ok x.2) (hn : x.2.n ≤ 1000000) :
    Calls Tryd.prog 113 #[.pointer (some ⟨a, 0, none⟩)] w (ETerm2 B a x w) := by
  obtain ⟨P, s⟩ := x
  obtain ⟨pv, hv, h⟩ := h
  obtain ⟨c0, c1, c2, c3, c4⟩ := h.r.cells
  dsimp only at hok hn
  have hin := Am.cwv_in hok
  have hg := gap_c w B a pv hv P s h hok.lo
  have hcv := gap_cwv s
  unfold Am.In at hin
  have h24 := Am.cwv_24 s
  have htop := hok.top
  have hr2 := hok.r2
  have hR := raise_c w B a pv hv P s (gapF s) h hok.lo (by omega) (by omega) (by omega) (by omega)
  unfold Raised at hR
  rw [hcv] at hR
  obtain ⟨v, hvv⟩ : ∃ v, v = Am.cwv s := ⟨_, rfl⟩
  rw [← hvv] at hR h24 hin
  have hv0 : 0 ≤ v := by have := hok.lo; omega
  have HV := Lib.hid hvv
  have H := Lib.hid h
  have HOK := Lib.hid hok
  have H24 := Lib.hid h24
  have hlt := h.core.lt
  have hge := h.core.ge
  generalize gapF s = G at *
  clear h hok hcv hvv h24 htop hin hr2 c0 c2 c3 c4
  go_enter Tryd.func113, Tryd.ntmps113
  go_wp2_with (first | (go_at_call 114; (with_reducible refine (emade_y _ _ c1).mono ?_); rintro e wn ⟨rfl, rfl⟩) | (go_at_call 116; (with_reducible refine hg.mono ?_); rintro e wn ⟨rfl, rfl⟩) | (go_at_call 115; (with_reducible refine hR.mono ?_); rintro e W3 ⟨rfl, hE3, hK3⟩))
  obtain ⟨d0, d1, d2, d3, d4⟩ := hE3.r.cells
  dsimp only at d0 d2 d3 d4
  have df := hE3.core.blk.free
  obtain ⟨sh, mh, rfl⟩ := own_slice hE3.hd
  dsimp only at d2
  have hHD := hE3.hd
  dsimp only at hHD
  have HE3 := Lib.hid hE3
  have HK3 := Lib.hid hK3
  obtain ⟨T, hT⟩ : ∃ T, T = v % 4294967296 := ⟨_, rfl⟩
  rw [← hT] at d3
  have htb : 0 ≤ T ∧ T ≤ 4294967295 := by omega
  obtain ⟨Y, hY⟩ : ∃ Y, Y = T / 16777216 := ⟨_, rfl⟩
  have eY : IntKind.u8.wrap (T / 16777216) = Y := by rw [IntKind.wrap_u8, hY]; omega
  have HT : Hid (Y = v % 4294967296 / 16777216) := by show _ = _; rw [hY, hT]
  obtain ⟨i0, hi, hz0, hz1, hz2⟩ := info_parts info8
  have HO2 : Hid ((W3.alloc (.cells #[.int .u8 Y] 5)).drew.ownsRow B 5 1 (.slice sh s.n mh) s.n ((Am.dig s.n (v / 4294967296)).map (Value.int .u8))) := own_below hHD (((Below.refl _ _).alloc (Nat.le_refl _) _).drew)
  have HNW : Hid (∀ j u, ([.int .u8 Y] : List Value)[j]? = some u → (W3.alloc (.cells #[.int .u8 Y] 5)).drew.cell? ((⟨W3.heap.size, 0, none⟩ : Addr).add j) = some u) := one_new8 W3 _ _
  have da2 : (W3.alloc (.cells #[.int .u8 Y] 5)).drew.cell? ⟨a, 2, none⟩ = some (.slice sh s.n mh) := cell_alloc d2 _
  have F : Hid (s.n + 1 ≤ maxLen ∧ (s.n + 1) * 1 ≤ 140737488355328 ∧ B ≤ (W3.alloc (.cells #[.int .u8 Y] 5)).drew.heap.size) := ⟨by unfold maxLen; omega, by omega, by have := hK3.size; simp; omega⟩
  clear hT hY hHD hE3 hK3 hR hg d0 d1 d4
  go_region_law (first | (refine step_append_at rfl (.tmp 14) (.tmp 21) 23 rfl B 5 i0 (.int .u8 0) 1 1 Tryd.underlying23 hi hz0 hz1 hz2 rfl (by decide) _ s.n _ rfl HO2.out ⟨W3.heap.size, 0, none⟩ 1 1 [.int .u8 Y] rfl rfl HNW.out (oneOne8 _) F.out.1 F.out.2.1 F.out.2.2 ?_; intro v2 w2 hown hgr hat; have X2 := Lib.hid (HE3.out.r.app hgr); have O2 := Lib.hid hown; obtain ⟨s2, m2, rfl⟩ := own_slice hown; have HAT := Lib.hid hat; clear hown hgr hat) | fail)
  all_goals
    have hbg := begin_c w2 B a _ _ _ _ P hge X2.out.1 X2.out.2.1
    clear d2 d3 da2 df eY
    go_wp2_with (first | (go_at_call 52; (with_reducible refine hbg.mono ?_); rintro e W5 ⟨rfl, hE5, hK5, hw5⟩; obtain ⟨HOW, HTC⟩ := word_fin (s := s) H24.out HT.out O2.out X2.out.1 hw5 (by omega); clear hw5) | (go_at_call 117; (with_reducible refine HTC.out.mono ?_); rintro e wn ⟨rfl, rfl⟩))
    go_ret
    have hcw : Am.cw s = Am.trim (Am.dig (s.n + 1) (v / 16777216)) := by rw [HV.out]; rfl
    obtain ⟨_, s', m', he, hH, ⟨hm, _⟩, hs'⟩ := HoldsB.of_own HOW.out
    simp at he
    obtain ⟨rfl, _, rfl⟩ := he
    have hpre := Am.trim_pre (Am.dig (s.n + 1) (v / 16777216))
    refine ⟨s2, m2, by rw [hcw]; rfl, ?_, by rw [hcw]; omega, fun p hp => ?_, fun h0 => ?_, ⟨_, _, hE5⟩, (HK3.out.trans X2.out.2.2).trans hK5⟩
    · rw [hcw, hpre.2.1]; exact hH.take _
    · subst hp
      obtain ⟨f1, ds, f2⟩ := own_foot HOW.out rfl
      refine ⟨f1, ⟨ds, f2⟩, hE5.core.notop f2 (by decide) fun i v k hv hk => ?_, ?_⟩
      rotate_left
      · rcases HAT.out with e | e
        · exact HK3.out.foot _ (HE3.out.core.of (i := 2) rfl (e.symm.trans rfl))
        · right
          have e2 : p.block = _ := Option.some.inj e
          have := HK3.out.size
          rw [e2]
          simp
          omega
      match i, hv with
      | 0, h =>
        simp at h
        subst h
        obtain ⟨_, es, g2⟩ := own_foot hE5.ps hk
        exact ⟨_, es, g2, by decide⟩
      | 1, h => simp at h; subst h; simp [Value.ownBlock] at hk
      | 2, h => simp at h; subst h; simp [Value.ownBlock] at hk
      | 3, h => simp at h; subst h; simp [Value.ownBlock] at hk
      | 4, h => simp at h; subst h; simp [Value.ownBlock] at hk
      | j + 5, h => simp at h
    · have := (hs' h0).1
      have hl : (Am.dig (s.n + 1) (v / 16777216)).length = s.n + 1 := Am.dig_len _ _
      rw [this] at hl; simp at hl
end Go.Proofs.YtklchodbnjebnaaDoor
