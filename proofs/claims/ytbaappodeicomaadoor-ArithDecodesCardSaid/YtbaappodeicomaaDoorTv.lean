/-
  The reference's writer and reader of layer 12.
-/
import Derived.Test.YtbaappodeicomaaDoorTr
set_option maxRecDepth 100000
namespace Go.Proofs.YtbaappodeicomaaDoor
open Go.RowKit

/-- The reference's writer at a block, with its bits. -/
structure VwC (w : World) (B a : Nat) (sv : Value) (l : List Int) : Prop where
  core : Core w B a 112 #[.bool true, sv]
  own : w.ownsRow B 3 1 sv l.length (l.map (Value.int .i64))
def Vw (w : World) (B a : Nat) (l : List Int) : Prop := ∃ sv, VwC w B a sv l
section
variable {w w1 : World} {B B' a b t : Nat} {l bs : List Int}
theorem Vw.lt (h : Vw w B a l) : a < w.heap.size := h.elim fun _ h => h.core.lt
theorem Vw.fl (h : Vw w B a l) : ∀ k, Fp w a k → k < w.heap.size := h.elim fun _ h => h.core.fl
theorem Vw.fp (h : Vw w B a l) : ∀ k, Fp w a k → B ≤ k ∧ k < w.heap.size := h.elim fun _ h => h.core.fp
theorem Vw.out (h : Vw w B a l) (k : Kp a w w1) : Below B w w1 := h.elim fun _ h => h.core.out k
theorem Vw.keep (h : Vw w B a l) (hk : ∀ k, Fp w a k → w1.heap[k]? = w.heap[k]?) : Vw w1 B a l := by
  obtain ⟨sv, h⟩ := h
  exact ⟨sv, h.core.keep hk, own_keep h.own fun k ho => hk k (h.core.of (i := 1) rfl ho)⟩
theorem Vw.below (h : Vw w B a l) (hb : Below w.heap.size w w1) : Vw w1 B a l := h.keep fun k hk => hb.block k (h.fl k hk)
theorem Vw.kp (h : Vw w B b l) (hd : Dj w a b) (hk : Kp a w w1) : Vw w1 B b l ∧ Dj w1 a b := ⟨h.keep (hd.kp hk h.fl).2, (hd.kp hk h.fl).1⟩
theorem Vw.lower (h : Vw w B a l) (hB : B' ≤ B) : Vw w B' a l := by
  obtain ⟨sv, h⟩ := h
  exact ⟨sv, h.core.lower hB, own_lower h.own hB⟩
end
def VwGives (B a : Nat) (l : List Int) (c : Int) (w : World) (e : Ending) (w' : World) : Prop := e = .returned (.int .i64 c) ∧ Vw w' B a l ∧ Kp a w w'
theorem rest2 {sv x : Value} (hx : x.ownBlock = none) : ∀ (j : Nat) (v : Value), j ≠ 1 → (#[x, sv] : Array Value)[j]? = some v → v.ownBlock = none := by
  intro j v hj hv
  match j, hj, hv with
  | 0, _, hv => simp at hv; subst hv; exact hx
  | j + 2, _, hv => simp at hv
theorem vwnew_c (w : World) : Calls Tryd.prog 45 #[] w fun e w' => ∃ a, e = .returned (.pointer (some ⟨a, 0, none⟩)) ∧ Vw w' w.heap.size a [] ∧ Below w.heap.size w w' := by
  go_enter Tryd.func45, Tryd.ntmps45
  go_wp2_with fail
  go_ret
  exact ⟨_, rfl, ⟨.slice none 0 0, core_one (i := 1) (e := 3) (n := 0) (xs := []) (Nat.le_refl _) (Blk.new w 112 _) (by decide) rfl (World.ownsRow_nil _ _ _ _) (rest2 rfl), World.ownsRow_nil _ _ _ _⟩, (Below.refl _ _).alloc (Nat.le_refl _) _⟩
theorem vwsize_c (w : World) (B a : Nat) (l : List Int) (h : Vw w B a l) (hl : l.length ≤ 1000000000) : Calls Tryd.prog 52 #[.pointer (some ⟨a, 0, none⟩)] w fun e w' => e = .returned (.int .i64 ((Pk.nb l.length : Nat) : Int)) ∧ w = w' := by
  obtain ⟨sv, h⟩ := h
  have c1 : w.cell? ⟨a, 1, none⟩ = some sv := h.core.blk.cell 1
  obtain ⟨s, m, rfl⟩ := own_slice h.own
  have hn : Hid (((Pk.nb l.length : Nat) : Int) = ((l.length : Int) + 7) / 8) := by show _ = _; unfold Pk.nb; omega
  clear h
  go_enter Tryd.func52, Tryd.ntmps52
  go_wp2_with fail
  go_ret
  exact ⟨by rw [hn.out]; rfl, rfl⟩
theorem vwput_c (w : World) (B a : Nat) (l : List Int) (b : Int) (h : Vw w B a l) (hn : l.length + 1 ≤ 1000000000) :
    Calls Tryd.prog 50 #[.pointer (some ⟨a, 0, none⟩), .int .i64 b] w (VwGives B a (putL l b) (putE b) w) := by
  have H := Lib.hid h
  obtain ⟨sv, h⟩ := h
  have c0 : w.cell? ⟨a, 0, none⟩ = some (.bool true) := h.core.blk.cell 0
  have c1 : w.cell? ⟨a, 1, none⟩ = some sv := h.core.blk.cell 1
  have f := h.core.blk.free
  have hB := h.core.lt
  have hBa := h.core.ge
  unfold putL putE
  by_cases hb0 : b < 0
  · rw [if_neg (by omega), if_neg (by omega)]
    clear h
    go_enter Tryd.func50, Tryd.ntmps50
    go_wp2_with fail
    go_ret
    exact ⟨rfl, H.out, Kp.refl _ _⟩
  by_cases hb1 : 1 < b
  · rw [if_neg (by omega), if_neg (by omega)]
    clear h
    go_enter Tryd.func50, Tryd.ntmps50
    go_wp2_with fail
    go_ret
    exact ⟨rfl, H.out, Kp.refl _ _⟩
  rw [if_pos (by omega), if_pos (by omega)]
  obtain ⟨i0, hi, hz0, hz1, hz2⟩ := info_parts infoI
  have HC := Lib.hid h.core
  have HO := Lib.hid h.own
  obtain ⟨s, m, rfl⟩ := own_slice h.own
  clear h
  go_enter Tryd.func50, Tryd.ntmps50
  go_wp2_with (first | (at_builtin; refine wpList_append_own_at _ rfl _ _ 54 rfl B 3 i0 (.int .i64 0) 1 8 Tryd.underlying54 hi hz0 hz1 hz2 rfl (by decide) _ l.length _ rfl (own_below HO.out ((Below.refl _ _).alloc (Nat.le_refl _) _)) ⟨w.heap.size, 0, none⟩ 1 1 [.int .i64 b] rfl rfl (one_new8 _ _ _) (by intro u hu; simp at hu; subst hu; rfl) (by unfold maxLen; omega) (by omega) (by simp; omega) ?_))
  intro v' w2 hown hgrow _ hat
  obtain ⟨x1, x2, x3, x4⟩ := HC.out.grow (i := 1) rfl HO.out (by decide) hown hgrow (hat.imp id fun he k hk => by rw [he] at hk; have := Option.some.inj hk; omega)
  have d1 : w2.cell? ⟨a, 1, none⟩ = some (.slice s l.length m) := x4.cell 1
  have df := x4.free
  have X1 := Lib.hid x1
  have X2 := Lib.hid x2
  have X3 := Lib.hid x3
  obtain ⟨s', m', rfl⟩ := own_slice hown
  clear hown hgrow hat x1 x2 x3 x4
  go_wp2_with fail
  go_ret
  exact ⟨rfl, ⟨_, by simpa using X1.out, by simpa using X2.out⟩, X3.out⟩
/-- The reference's reader at a block. -/
structure SrC (w : World) (B a : Nat) (sv : Value) (bs : List Int) (t : Nat) : Prop where
  core : Core w B a 116 #[.bool true, sv, .int .i64 (t : Int)]
  own : w.ownsRow B 5 1 sv bs.length (bs.map (Value.int .u8))
def Sr (w : World) (B a : Nat) (bs : List Int) (t : Nat) : Prop := ∃ sv, SrC w B a sv bs t
section
variable {w w1 : World} {B B' a b t : Nat} {bs : List Int}
theorem Sr.fl (h : Sr w B a bs t) : ∀ k, Fp w a k → k < w.heap.size := h.elim fun _ h => h.core.fl
theorem Sr.fp (h : Sr w B a bs t) : ∀ k, Fp w a k → B ≤ k ∧ k < w.heap.size := h.elim fun _ h => h.core.fp
theorem Sr.out (h : Sr w B a bs t) (k : Kp a w w1) : Below B w w1 := h.elim fun _ h => h.core.out k
theorem Sr.keep (h : Sr w B a bs t) (hk : ∀ k, Fp w a k → w1.heap[k]? = w.heap[k]?) : Sr w1 B a bs t := by
  obtain ⟨sv, h⟩ := h
  exact ⟨sv, h.core.keep hk, own_keep h.own fun k ho => hk k (h.core.of (i := 1) rfl ho)⟩
theorem Sr.below (h : Sr w B a bs t) (hb : Below w.heap.size w w1) : Sr w1 B a bs t := h.keep fun k hk => hb.block k (h.fl k hk)
theorem Sr.kp (h : Sr w B b bs t) (hd : Dj w a b) (hk : Kp a w w1) : Sr w1 B b bs t ∧ Dj w1 a b := ⟨h.keep (hd.kp hk h.fl).2, (hd.kp hk h.fl).1⟩
theorem Sr.lower (h : Sr w B a bs t) (hB : B' ≤ B) : Sr w B' a bs t := by
  obtain ⟨sv, h⟩ := h
  exact ⟨sv, h.core.lower hB, own_lower h.own hB⟩
end
theorem rest31 {sv x y : Value} (hx : x.ownBlock = none) (hy : y.ownBlock = none) : ∀ (j : Nat) (v : Value), j ≠ 1 → (#[x, sv, y] : Array Value)[j]? = some v → v.ownBlock = none := by
  intro j v hj hv
  match j, hj, hv with
  | 0, _, hv => simp at hv; subst hv; exact hx
  | 2, _, hv => simp at hv; subst hv; exact hy
  | j + 3, _, hv => simp at hv
def SrGives (B a : Nat) (bs : List Int) (t : Nat) (v : Int) (w : World) (e : Ending) (w' : World) : Prop := e = .returned (.int .i64 v) ∧ Sr w' B a bs t ∧ Kp a w w'
/-- What a slice of no bytes with bytes appended is. -/
theorem srnew_none (w : World) : Calls Tryd.prog 54 #[.slice none 0 0] w fun e w' => ∃ a, e = .returned (.pointer (some ⟨a, 0, none⟩)) ∧ Sr w' w.heap.size a [] 0 ∧ Below w.heap.size w w' := by
  obtain ⟨i0, hi, hz0, hz1, hz2⟩ := info_parts info8
  have HA := Lib.hid ((Below.refl w.heap.size w).alloc (Nat.le_refl _) (.cells #[] 5))
  have HO := Lib.hid (World.ownsRow_made w #[] 0 (Nat.le_refl _) (by decide : (0:Nat) ≤ maxLen) (by simp) : (w.alloc (.cells #[] 5)).ownsRow w.heap.size 5 1 (.slice (some ⟨w.heap.size, 0, none⟩) 0 0) 0 [])
  go_enter Tryd.func54, Tryd.ntmps54
  go_wp2_with (first | (at_builtin; refine wpList_append_own_none rfl _ _ 34 rfl w.heap.size 5 i0 1 Tryd.underlying34 hi _ 0 [] rfl HO.out rfl ?_))
  go_ret
  have b1 := Blk.new (w.alloc (.cells #[] 5)) 116 #[.bool true, .slice (some ⟨w.heap.size, 0, none⟩) 0 0, .int .i64 0]
  have o1 := own_below HO.out ((Below.refl _ _).alloc (Nat.le_refl _) (.cells #[.bool true, .slice (some ⟨w.heap.size, 0, none⟩) 0 0, .int .i64 0] 116))
  exact ⟨_, rfl, ⟨.slice (some ⟨w.heap.size, 0, none⟩) 0 0, core_one (i := 1) (e := 5) (n := 0) (xs := []) (by simp) (by simpa using b1) (by decide) rfl o1 (rest31 rfl rfl), o1⟩, HA.out.alloc HA.out.size _⟩
theorem srnew_some (w : World) (bs : List Int) (p : Addr) (m : Nat) (hH : HoldsB w (some p) bs) (hl : bs.length ≤ 1000000000) :
    Calls Tryd.prog 54 #[.slice (some p) bs.length m] w fun e w' => ∃ a, e = .returned (.pointer (some ⟨a, 0, none⟩)) ∧ Sr w' w.heap.size a bs 0 ∧ Below w.heap.size w w' := by
  obtain ⟨i0, hi, hz0, hz1, hz2⟩ := info_parts info8
  have HN := Lib.hid (fun X => holdsB_list (hH.call ((Below.refl w.heap.size w).alloc (Nat.le_refl _) X)))
  have HA := Lib.hid (fun X => (Below.refl w.heap.size w).alloc (Nat.le_refl _) X)
  clear hH
  go_enter Tryd.func54, Tryd.ntmps54
  go_wp2_with (first | (at_builtin; refine wpList_append_own_at _ rfl _ _ 34 rfl w.heap.size 5 i0 (.int .u8 0) 1 1 Tryd.underlying34 hi hz0 hz1 hz2 rfl (by decide) _ 0 [] rfl (World.ownsRow_made w #[] 0 (Nat.le_refl _) (by decide) (by simp)) p bs.length m (bs.map (Value.int .u8)) rfl (by simp) (HN.out _) (one8 bs) (by unfold maxLen; omega) (by omega) (by simp) ?_))
  intro v' w2 hown hgrow _ hat
  have hown2 : w2.ownsRow w.heap.size 5 1 v' bs.length (bs.map (Value.int .u8)) := by simpa using hown
  have hb : Below w.heap.size w w2 := (HA.out _).grown hgrow (by simp) (fun k hk => by simp [Value.ownBlock] at hk; omega)
  obtain ⟨_, s5, m5, rfl, _, _⟩ := HoldsB.of_own hown2
  have HO := Lib.hid hown2
  have HB := Lib.hid hb
  clear hown hown2 hgrow hat hb
  go_wp2_with fail
  go_ret
  have b1 := Blk.new w2 116 #[.bool true, .slice s5 bs.length m5, .int .i64 0]
  have o1 := own_below HO.out ((Below.refl _ _).alloc (Nat.le_refl _) (.cells #[.bool true, .slice s5 bs.length m5, .int .i64 0] 116))
  exact ⟨_, rfl, ⟨.slice s5 bs.length m5, core_one (i := 1) (e := 5) HB.out.size b1 (by decide) rfl o1 (rest31 rfl rfl), o1⟩, HB.out.alloc HB.out.size _⟩
theorem srnew_c (w : World) (bs : List Int) (s : Option Addr) (m : Nat) (hH : HoldsB w s bs) (hs : s = none → bs = [] ∧ m = 0) (hl : bs.length ≤ 1000000000) :
    Calls Tryd.prog 54 #[.slice s bs.length m] w fun e w' => ∃ a, e = .returned (.pointer (some ⟨a, 0, none⟩)) ∧ Sr w' w.heap.size a bs 0 ∧ Below w.heap.size w w' := by
  cases s with
  | none => obtain ⟨rfl, rfl⟩ := hs rfl; exact srnew_none w
  | some p => exact srnew_some w bs p m hH hl
theorem srat_c (w : World) (B a : Nat) (bs : List Int) (t : Nat) (h : Sr w B a bs t) : Calls Tryd.prog 58 #[.pointer (some ⟨a, 0, none⟩)] w fun e w' => e = .returned (.int .i64 (t : Int)) ∧ w = w' := by
  obtain ⟨sv, h⟩ := h
  have c2 : w.cell? ⟨a, 2, none⟩ = some (.int .i64 (t : Int)) := h.core.blk.cell 2
  clear h
  go_enter Tryd.func58, Tryd.ntmps58
  go_wp2_with fail
  go_ret
  exact ⟨rfl, rfl⟩
theorem srstep {w : World} {B a : Nat} {bs : List Int} {t : Nat} (h : Sr w B a bs t) : Sr (w.setCell ⟨a, 2, none⟩ (.int .i64 ((t : Int) + 1))) B a bs (t + 1) ∧ Kp a w (w.setCell ⟨a, 2, none⟩ (.int .i64 ((t : Int) + 1))) := by
  obtain ⟨sv, h⟩ := h
  have N1 := h.core.num 2 (.int .i64 ((t : Int) + 1)) rfl
  have O1 := own_far h.own ⟨a, 2, none⟩ (.int .i64 ((t : Int) + 1)) (own_blk_ne h.own h.core.blk (by decide))
  exact ⟨⟨sv, by simpa using N1.1, O1⟩, N1.2⟩
theorem srget_c (w : World) (B a : Nat) (bs : List Int) (t : Nat) (h : Sr w B a bs t) (hb : Am.bytes bs) (ht : t + 1 ≤ 1000000000) :
    Calls Tryd.prog 56 #[.pointer (some ⟨a, 0, none⟩)] w (SrGives B a bs (t + 1) (Pk.bitAt bs t) w) := by
  have H := Lib.hid h
  obtain ⟨sv, h⟩ := h
  have c0 : w.cell? ⟨a, 0, none⟩ = some (.bool true) := h.core.blk.cell 0
  have c1 : w.cell? ⟨a, 1, none⟩ = some sv := h.core.blk.cell 1
  have c2 : w.cell? ⟨a, 2, none⟩ = some (.int .i64 (t : Int)) := h.core.blk.cell 2
  have f := h.core.blk.free
  by_cases hlt : t / 8 < bs.length
  · obtain ⟨_, s, m, rfl, hH, ⟨hm, _⟩, _⟩ := HoldsB.of_own h.own
    obtain ⟨g, off, rfl, hc⟩ := hH.at hlt
    have hx := hb _ (List.getElem_mem hlt)
    have ex : bs.getD (t / 8) 0 = bs[t / 8] := by rw [List.getD_eq_getElem?_getD, List.getElem?_eq_getElem hlt]; rfl
    rw [← ex] at hx
    have hga := own_blk_ne h.own h.core.blk (by decide)
    have hga' : g ≠ a := by simpa [Value.ownBlock] using hga
    have hc1 : (w.setCell ⟨a, 2, none⟩ (.int .i64 ((t : Int) + 1))).cell? ⟨g, off + t / 8, none⟩ = some (.int .u8 (bs.getD (t / 8) 0)) := cell_far _ hc hga'
    have hxb : 0 ≤ bs.getD (t / 8) 0 ∧ bs.getD (t / 8) 0 ≤ 255 := hx
    have hV : Hid (Pk.bitAt bs t = bs.getD (t / 8) 0 / 2 ^ (7 - t % 8) % 2) := rfl
    obtain ⟨x, hxx⟩ : ∃ x, x = bs.getD (t / 8) 0 := ⟨_, rfl⟩
    rw [← hxx] at hc1 hxb hV
    have hdv := div_bd hxb (7 - t % 8)
    have hr : Hid ((7 - (t : Int) % 8) = ((7 - t % 8 : Nat) : Int)) := by show _ = _; omega
    clear h hb hH hc hx ex hga hxx
    go_enter Tryd.func56, Tryd.ntmps56
    go_wp2_with fail
    go_ret
    have R := srstep H.out
    exact ⟨by rw [hV.out]; rfl, R.1, R.2⟩
  · have hz : Hid (Pk.bitAt bs t = 0) := by
      show _ = _
      unfold Pk.bitAt
      rw [Am.getD_over (by omega)]
      simp
    obtain ⟨_, s, m, rfl, _, _, _⟩ := HoldsB.of_own h.own
    have hge : bs.length ≤ t / 8 := by omega
    clear h hb hlt
    go_enter Tryd.func56, Tryd.ntmps56
    go_wp2_with fail
    go_ret
    have R := srstep H.out
    exact ⟨by rw [hz.out]; rfl, R.1, R.2⟩
end Go.Proofs.YtbaappodeicomaaDoor
