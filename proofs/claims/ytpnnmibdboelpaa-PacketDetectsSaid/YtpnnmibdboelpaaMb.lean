/-
  Bytes in memory; contracts of bytes.Clone; a slice of bytes as a string.
-/
import Derived.Test.YtpnnmibdboelpaaObj6
import Derived.Test.YtpnnmibdboelpaaMk
import Derived.Laws.AppendOwn
import Derived.Laws.AppendOwnNone
import Derived.LaidEqlPtr
import Derived.Lib.Hide
import Derived.Lib.SliceRun
import Derived.Laws.BitsAllLaws
import Derived.Laws.BytesArg
import Derived.Maps.AppendAt
import Derived.Lib.AppendZerosOnto
set_option maxRecDepth 100000
namespace Go.Proofs.Ytpnnmibdboelpaa
open Go.RowKit

/-- Bytes behind a slice's address. -/
def HoldsB (w : World) (a : Option Addr) (l : List Int) : Prop := l = [] ∨ ∃ b off, a = some ⟨b, off, none⟩ ∧ ∀ k (_ : k < l.length), w.cell? ⟨b, off + k, none⟩ = some (.int .u8 l[k])
theorem HoldsB.below {B : Nat} {w w1 : World} {a : Option Addr} {l : List Int} (h : HoldsB w a l) (hb : Below B w w1) (hB : w.heap.size ≤ B) : HoldsB w1 a l := by
  rcases h with rfl | ⟨b, off, rfl, hr⟩
  · exact .inl rfl
  · exact .inr ⟨b, off, rfl, fun k hk => (hb.cell (p := ⟨b, _, none⟩) (Nat.lt_of_lt_of_le (cell_lt (hr k hk)) hB)).trans (hr k hk)⟩
theorem HoldsB.call {w w1 : World} {s : Option Addr} {l : List Int} (h : HoldsB w s l) (hb : Below w.heap.size w w1) : HoldsB w1 s l := h.below hb (Nat.le_refl _)
theorem HoldsB.take {w : World} {s : Option Addr} {bs : List Int} (h : HoldsB w s bs) (n : Nat) : HoldsB w s (bs.take n) := by
  rcases h with rfl | ⟨b, off, rfl, hr⟩
  · exact .inl (by simp)
  · refine .inr ⟨b, off, rfl, fun k hk => ?_⟩
    simp at hk
    rw [hr k (by omega)]
    simp
theorem HoldsB.of_own {w : World} {base : Nat} {v : Value} {n : Nat} {l : List Int} (h : w.ownsRow base 5 1 v n (l.map (Value.int .u8))) :
    n = l.length ∧ ∃ s m, v = .slice s l.length m ∧ HoldsB w s l ∧ (l.length ≤ m ∧ m ≤ maxLen) ∧ (s = none → l = [] ∧ m = 0) := by
  obtain ⟨h1, h2⟩ := h
  have hn : n = l.length := by simpa using h1.symm
  subst hn
  refine ⟨rfl, ?_⟩
  rcases h2 with ⟨rfl, h0⟩ | ⟨g, cap, cur, rfl, hb, hg, hc, hm, hs, ht⟩
  · obtain rfl := List.length_eq_zero_iff.1 h0
    exact ⟨none, 0, rfl, .inl rfl, ⟨Nat.le_refl _, Nat.zero_le _⟩, fun _ => ⟨rfl, rfl⟩⟩
  · refine ⟨_, cap, rfl, .inr ⟨g, 0, rfl, fun k hk => ?_⟩, ⟨hc, hm⟩, fun h => by simp at h⟩
    have e : cur[k]? = some (.int .u8 l[k]) := by
      have h3 : (cur.toList.take (l.length * 1))[k]? = (l.map (Value.int .u8))[k]? := by rw [ht]
      rw [List.getElem?_take_of_lt (by omega)] at h3
      rw [Array.getElem?_toList] at h3
      rw [h3]; simp [hk]
    simp [World.cell?, hg, e]
theorem info8 : (Try.prog.info? 5).map (fun i => (i.zero, i.size, i.bytes)) = some (some (.int .u8 0), 1, 1) := by kernel_rfl
theorem holdsB_list {w : World} {p : Addr} {l : List Int} (h : HoldsB w (some p) l) : ∀ j u, (l.map (Value.int .u8))[j]? = some u → w.cell? (p.add j) = some u := by
  intro j v hj
  rcases h with rfl | ⟨b, off, e, hr⟩
  · simp at hj
  · simp at e; subst e
    rw [List.getElem?_map, Option.map_eq_some_iff] at hj
    obtain ⟨x, hx, rfl⟩ := hj
    obtain ⟨hj', hx'⟩ := List.getElem?_eq_some_iff.1 hx
    have e : (⟨b, off, none⟩ : Addr).add j = ⟨b, off + j, none⟩ := by
      simp only [Addr.add]
      split
      · subst_vars; rfl
      · rfl
    rw [e, hr j hj', hx']
theorem one8 (l : List Int) : ∀ v ∈ l.map (Value.int .u8), v.oneCell' = true := by
  intro v hv
  obtain ⟨x, _, rfl⟩ := List.mem_map.1 hv
  rfl
theorem HoldsB.at {w : World} {s : Option Addr} {l : List Int} (h : HoldsB w s l) {k : Nat} (hk : k < l.length) : ∃ b off, s = some ⟨b, off, none⟩ ∧ w.cell? ⟨b, off + k, none⟩ = some (.int .u8 (l.getD k 0)) := by
  rcases h with rfl | ⟨b, off, rfl, hr⟩
  · simp at hk
  · exact ⟨b, off, rfl, by rw [hr k hk, List.getD_eq_getElem?_getD, List.getElem?_eq_getElem hk]; rfl⟩
theorem holdsB_new (w : World) (l : List Int) : HoldsB (w.alloc (.cells (l.map (Value.int .u8)).toArray 5)) (some ⟨w.heap.size, 0, none⟩) l := by
  refine .inr ⟨w.heap.size, 0, rfl, fun k hk => ?_⟩
  rw [Nat.zero_add, (Blk.new w 5 (l.map (Value.int .u8)).toArray).cell k]
  simp [hk]
theorem clone_none (w : World) : Calls Try.prog 39 #[.slice none 0 0] w fun e w' => e = .returned (.slice none 0 0) ∧ w = w' := by
  have hn : ∀ (w : World) (a : Option Addr) (n c n' c' : Nat), (binOp .eql 22 (.slice a n c) (.slice none n' c')).run Try.prog w = .ok (.bool a.isNone) w := fun w a n c n' c' => Go.Lib.run_eql_slice_nil w _ _ a n c n' c' Try.underlying22
  go_enter Try.func39, Try.ntmps39
  go_wp2_with fail
  go_ret
  exact ⟨rfl, rfl⟩
/-- What Clone returns: bytes of the call's own. -/
def GivesB (bs : List Int) (w : World) (e : Ending) (w' : World) : Prop := ∃ v, e = .returned v ∧ w'.ownsRow w.heap.size 5 1 v bs.length (bs.map (Value.int .u8)) ∧ Below w.heap.size w w'
theorem clone_some (w : World) (bs : List Int) (p : Addr) (m : Nat) (hH : HoldsB w (some p) bs) (hl : bs.length ≤ 1000000000) :
    Calls Try.prog 39 #[.slice (some p) bs.length m] w (GivesB bs w) := by
  obtain ⟨i0, hi, hz0, hz1, hz2⟩ := info_parts info8
  have HN := Lib.hid (fun X => holdsB_list (hH.call ((Below.refl w.heap.size w).alloc (Nat.le_refl _) X)))
  have HA := Lib.hid (fun X => (Below.refl w.heap.size w).alloc (Nat.le_refl _) X)
  have hn : ∀ (w : World) (a : Option Addr) (n c n' c' : Nat), (binOp .eql 22 (.slice a n c) (.slice none n' c')).run Try.prog w = .ok (.bool a.isNone) w := fun w a n c n' c' => Go.Lib.run_eql_slice_nil w _ _ a n c n' c' Try.underlying22
  clear hH
  go_enter Try.func39, Try.ntmps39
  go_wp2_with (first | (at_builtin; refine wpList_append_own_at _ rfl _ _ 22 rfl w.heap.size 5 i0 (.int .u8 0) 1 1 Try.underlying22 hi hz0 hz1 hz2 rfl (by decide) _ 0 [] rfl (World.ownsRow_made w #[] 0 (Nat.le_refl _) (by decide) (by simp)) p bs.length m (bs.map (Value.int .u8)) rfl (by simp) (HN.out _) (one8 bs) (by unfold maxLen; omega) (by omega) (by simp) ?_))
  intro v' w2 hown hgrow _ hat
  have hown2 : w2.ownsRow w.heap.size 5 1 v' bs.length (bs.map (Value.int .u8)) := by simpa using hown
  have hb : Below w.heap.size w w2 := (HA.out _).grown hgrow (by simp) (fun k hk => by simp [Value.ownBlock] at hk; omega)
  have HO := Lib.hid hown2
  have HB := Lib.hid hb
  clear hown hown2 hgrow hat hb
  go_wp2_with fail
  go_ret
  exact ⟨v', rfl, HO.out, HB.out⟩
theorem clone_c (w : World) (bs : List Int) (s : Option Addr) (m : Nat) (hH : HoldsB w s bs) (hs : s = none → bs = [] ∧ m = 0) (hl : bs.length ≤ 1000000000) :
    Calls Try.prog 39 #[.slice s bs.length m] w (GivesB bs w) := by
  cases s with
  | none =>
    obtain ⟨rfl, rfl⟩ := hs rfl
    refine (clone_none w).mono ?_
    rintro e w' ⟨rfl, rfl⟩
    exact ⟨_, rfl, World.ownsRow_nil _ _ _ _, Below.refl _ _⟩
  | some p => exact clone_some w bs p m hH hl
theorem conv_b (W : World) (l : List Int) (s : Option Addr) (m : Nat) (h : HoldsB W s l) : (convert 22 9 (.slice s l.length m)).run Try.prog W = .ok (.string (strOfNums l)) W := by
  rcases h with rfl | ⟨b, off, rfl, hr⟩
  · cases s with
    | none => exact run_convert_bytes_nil W 22 5 Try.underlying22 Try.underlying5 _ _ 9 Try.underlying9
    | some ad =>
      rw [run_convert_bytes_string W 22 9 5 _ _ _ Try.underlying22 Try.underlying5 Try.underlying9]
      have hl : (loadCells ad 0).run Try.prog W = .ok (([] : List Int).map (Value.int .u8)).toArray W := by
        have := run_loadCells_list (P := Try.prog) W ad [] (fun j v hj => by simp at hj)
        simpa using this
      rw [List.length_nil, run_bytesToString W ad 0 m [] hl]
      rfl
  · exact run_convert_bytes_arg W 22 5 Try.underlying22 Try.underlying5 b off l.length m l rfl (fun i hi => by rw [hr i hi]; simp [List.getD_eq_getElem?_getD, hi]) 9 Try.underlying9
end Go.Proofs.Ytpnnmibdboelpaa
