/-
  Layer 11, the code's decoder: its cells, take, NewDecoder, Reset.
-/
import Derived.Test.YtnmmgjbjnhiaoaaDoorQEf
set_option maxRecDepth 100000
namespace Go.Proofs.YtnmmgjbjnhiaoaaDoor
open Go.RowKit

/-- The code's decoder in memory: probabilities, the bytes that are left, value, range. -/
structure DkC (w : World) (B a : Nat) (pv : Value) (s : Option Addr) (m : Nat) (P bs : List Int) (v rg : Int) : Prop where
  core : Core w B a 100 #[pv, .pointer (some ⟨a, 0, none⟩), .slice s bs.length m, .int .u64 v, .int .u64 rg]
  ps : w.ownsRow B 3 1 pv P.length (P.map (Value.int .i64))
  rest : HoldsB w s bs
  cap : bs.length ≤ m
  u8 : ∀ p, s = some p → B ≤ p.block ∧ ∃ ds, Blk w p.block 5 ds
theorem core_sub {w : World} {B a : Nat} {T : TypeId} {pv hv x y z : Value} {n : Nat} {xs : List Value} (hB : B ≤ a) (hb : Blk w a T #[pv, x, hv, y, z]) (h1 : 3 ≠ T) (h2 : 5 ≠ T) (hp : w.ownsRow B 3 1 pv n xs) (hh : ∀ k, hv.ownBlock = some k → B ≤ k ∧ ∃ ds, Blk w k 5 ds)
    (hx : x.ownBlock = none) (hy : y.ownBlock = none) (hz : z.ownBlock = none) : Core w B a T #[pv, x, hv, y, z] := by
  have key : ∀ (i : Nat) (v : Value) (k : Nat), (#[pv, x, hv, y, z] : Array Value)[i]? = some v → v.ownBlock = some k → (i = 0 ∧ v = pv) ∨ (i = 2 ∧ v = hv) := by
    intro i v k hv' hk
    match i, hv' with
    | 0, h => simp at h; exact .inl ⟨rfl, h.symm⟩
    | 1, h => simp at h; subst h; rw [hx] at hk; simp at hk
    | 2, h => simp at h; exact .inr ⟨rfl, h.symm⟩
    | 3, h => simp at h; subst h; rw [hy] at hk; simp at hk
    | 4, h => simp at h; subst h; rw [hz] at hk; simp at hk
    | i + 5, h => simp at h
  refine ⟨hB, hb, fun i v k hv' hk => ?_, fun i j v v' k hne hv' hv2 hk hk' => ?_⟩
  · rcases key i v k hv' hk with ⟨_, rfl⟩ | ⟨_, rfl⟩
    · obtain ⟨e1, ds, e2⟩ := own_foot hp hk
      exact ⟨e1, _, ds, e2, h1⟩
    · obtain ⟨e1, ds, e2⟩ := hh k hk
      exact ⟨e1, _, ds, e2, h2⟩
  · have hap : ∀ k, pv.ownBlock = some k → hv.ownBlock = some k → False := fun k e1 e2 => by
      obtain ⟨_, ds, b1⟩ := own_foot hp e1
      obtain ⟨_, es, b2⟩ := hh k e2
      exact Blk.ne (t := 3) b1 b2 (by decide) rfl
    rcases key i v k hv' hk with ⟨rfl, rfl⟩ | ⟨rfl, rfl⟩ <;> rcases key j v' k hv2 hk' with ⟨rfl, rfl⟩ | ⟨rfl, rfl⟩
    · exact hne rfl
    · exact hap k hk hk'
    · exact hap k hk' hk
    · exact hne rfl
theorem holdsB_far {w w1 : World} {s : Option Addr} {bs : List Int} (h : HoldsB w s bs) (hs : ∀ p, s = some p → w1.heap[p.block]? = w.heap[p.block]?) : HoldsB w1 s bs := by
  rcases h with h | ⟨b, off, rfl, hr⟩
  · exact .inl h
  · exact .inr ⟨b, off, rfl, fun k hk => (World.cell?_of_block (w := w) (a := ⟨b, off + k, none⟩) (hs ⟨b, off, none⟩ rfl)).trans (hr k hk)⟩
section
variable {w w1 : World} {B a m : Nat} {pv : Value} {s : Option Addr} {P bs : List Int} {v rg : Int}
theorem DkC.cells (h : DkC w B a pv s m P bs v rg) : w.cell? ⟨a, 0, none⟩ = some pv ∧ w.cell? ⟨a, 1, none⟩ = some (.pointer (some ⟨a, 0, none⟩)) ∧ w.cell? ⟨a, 2, none⟩ = some (.slice s bs.length m) ∧ w.cell? ⟨a, 3, none⟩ = some (.int .u64 v) ∧ w.cell? ⟨a, 4, none⟩ = some (.int .u64 rg) := ⟨h.core.blk.cell 0, h.core.blk.cell 1, h.core.blk.cell 2, h.core.blk.cell 3, h.core.blk.cell 4⟩
theorem DkC.keep (h : DkC w B a pv s m P bs v rg) (hk : ∀ k, Fp w a k → w1.heap[k]? = w.heap[k]?) : DkC w1 B a pv s m P bs v rg :=
  ⟨h.core.keep hk, own_keep h.ps fun k ho => hk k (h.core.of (i := 0) rfl ho), holdsB_far h.rest fun p hp => hk p.block (h.core.of (i := 2) (v := .slice s bs.length m) rfl (by rw [hp]; rfl)), h.cap, fun p hp => by
    obtain ⟨h1, ds, h2⟩ := h.u8 p hp
    exact ⟨h1, ds, (hk p.block (h.core.of (i := 2) (v := .slice s bs.length m) rfl (by rw [hp]; rfl))).trans h2⟩⟩
theorem DkC.below (h : DkC w B a pv s m P bs v rg) (hb : Below w.heap.size w w1) : DkC w1 B a pv s m P bs v rg := h.keep fun k hk => hb.block k (h.core.fl k hk)
theorem DkC.pa (h : DkC w B a pv s m P bs v rg) : pv.ownBlock ≠ some a ∧ ∀ p, s = some p → p.block ≠ a := ⟨own_blk_ne h.ps h.core.blk (by decide), fun p hp => h.core.ne (i := 2) (v := .slice s bs.length m) rfl (by rw [hp]; rfl)⟩
theorem DkC.apart (h : DkC w B a pv s m P bs v rg) (k : Nat) (h1 : pv.ownBlock = some k) (p : Addr) (hp : s = some p) : p.block ≠ k := fun e => h.core.dis 0 2 pv (.slice s bs.length m) k (by decide) rfl rfl h1 (by rw [hp, ← e]; rfl)
theorem DkC.far (h : DkC w B a pv s m P bs v rg) (i : Nat) (u : Value) : w.ownsRow B 3 1 pv P.length (P.map (Value.int .i64)) → (w.setCell ⟨a, i, none⟩ u).ownsRow B 3 1 pv P.length (P.map (Value.int .i64)) ∧ HoldsB (w.setCell ⟨a, i, none⟩ u) s bs := fun hp =>
  ⟨own_far hp ⟨a, i, none⟩ _ h.pa.1, holdsB_far h.rest fun p hs => Below.heap_setCell _ _ _ _ (h.pa.2 p hs)⟩
theorem DkC.val (h : DkC w B a pv s m P bs v rg) (v' : Int) : DkC (w.setCell ⟨a, 3, none⟩ (.int .u64 v')) B a pv s m P bs v' rg ∧ Kp a w (w.setCell ⟨a, 3, none⟩ (.int .u64 v')) := by
  have N := h.core.num 3 (.int .u64 v') rfl
  have F := h.far 3 (.int .u64 v') h.ps
  exact ⟨⟨by simpa using N.1, F.1, F.2, h.cap, fun p hp => by
    obtain ⟨h1, ds, h2⟩ := h.u8 p hp
    exact ⟨h1, ds, h2.far (p := ⟨a, _, none⟩) (h.pa.2 p hp) _⟩⟩, N.2⟩
theorem DkC.width (h : DkC w B a pv s m P bs v rg) (r' : Int) : DkC (w.setCell ⟨a, 4, none⟩ (.int .u64 r')) B a pv s m P bs v r' ∧ Kp a w (w.setCell ⟨a, 4, none⟩ (.int .u64 r')) := by
  have N := h.core.num 4 (.int .u64 r') rfl
  have F := h.far 4 (.int .u64 r') h.ps
  exact ⟨⟨by simpa using N.1, F.1, F.2, h.cap, fun p hp => by
    obtain ⟨h1, ds, h2⟩ := h.u8 p hp
    exact ⟨h1, ds, h2.far (p := ⟨a, _, none⟩) (h.pa.2 p hp) _⟩⟩, N.2⟩
/-- The bytes that are left take another value. -/
theorem DkC.sub1 (h : DkC w B a pv s m P bs v rg) (s' : Option Addr) (m' : Nat) (bs' : List Int) (hH : HoldsB w s' bs') (hc : bs'.length ≤ m') (hs : ∀ p', s' = some p' → B ≤ p'.block ∧ (∃ ds, Blk w p'.block 5 ds)) :
    DkC (w.setCell ⟨a, 2, none⟩ (.slice s' bs'.length m')) B a pv s' m' P bs' v rg := by
  have hown : ∀ k, (Value.slice s' bs'.length m').ownBlock = some k → ∃ p', s' = some p' ∧ p'.block = k := fun k hk => by
    cases s' with
    | none => simp [Value.ownBlock] at hk
    | some p' => exact ⟨p', rfl, by simpa [Value.ownBlock] using hk⟩
  have hne : ∀ p', s' = some p' → p'.block ≠ a := fun p' e => by
    obtain ⟨_, ds, hb⟩ := hs p' e
    exact hb.ne h.core.blk (by decide)
  have b := h.core.blk.set 2 (.slice s' bs'.length m')
  simp at b
  refine ⟨core_sub h.core.ge b (by decide) (by decide) (own_far h.ps ⟨a, 2, none⟩ _ h.pa.1) (fun k hk => ?_) rfl rfl rfl, own_far h.ps ⟨a, 2, none⟩ _ h.pa.1, holdsB_far hH fun p e => Below.heap_setCell _ _ _ _ (hne p e), hc, fun p e => ?_⟩
  · obtain ⟨p', e, rfl⟩ := hown k hk
    obtain ⟨h1, ds, h2⟩ := hs p' e
    exact ⟨h1, ds, h2.far (p := ⟨a, 2, none⟩) (hne p' e) _⟩
  · obtain ⟨h1, ds, h2⟩ := hs p e
    exact ⟨h1, ds, h2.far (p := ⟨a, 2, none⟩) (hne p e) _⟩
theorem own_of {s' : Option Addr} {n m' k : Nat} (hk : (Value.slice s' n m').ownBlock = some k) : ∃ p', s' = some p' ∧ p'.block = k := by
  cases s' with
  | none => simp [Value.ownBlock] at hk
  | some p' => exact ⟨p', rfl, by simpa [Value.ownBlock] using hk⟩
theorem DkC.sub (h : DkC w B a pv s m P bs v rg) (s' : Option Addr) (m' : Nat) (bs' : List Int) (hH : HoldsB w s' bs') (hc : bs'.length ≤ m') (hs : ∀ p', s' = some p' → B ≤ p'.block ∧ (∃ ds, Blk w p'.block 5 ds)) (hk : ∀ p', s' = some p' → Fp w a p'.block) :
    DkC (w.setCell ⟨a, 2, none⟩ (.slice s' bs'.length m')) B a pv s' m' P bs' v rg ∧ Kp a w (w.setCell ⟨a, 2, none⟩ (.slice s' bs'.length m')) :=
  ⟨h.sub1 s' m' bs' hH hc hs, (Kp.refl a w).put h.core.lt _ fun k hk' => by
    obtain ⟨p', e, rfl⟩ := own_of hk'
    exact .inl (hk p' e)⟩
theorem DkC.prob {g n mp : Nat} (h : DkC w B a (.slice (some ⟨g, 0, none⟩) n mp) s m P bs v rg) (k : Nat) (q : Int) : DkC (w.setCell ⟨g, k, none⟩ (.int .i64 q)) B a (.slice (some ⟨g, 0, none⟩) n mp) s m (P.set k q) bs v rg ∧ Kp a w (w.setCell ⟨g, k, none⟩ (.int .i64 q)) := by
  have N := h.core.row (i := 0) (g := g) rfl rfl k (.int .i64 q)
  have hn : n = P.length := by
    have h1 := h.ps
    rcases h1.2 with ⟨h2, _⟩ | ⟨g', cap, cur, h2, _⟩
    · simp at h2
    · simp at h2; exact h2.2.1
  subst hn
  refine ⟨⟨N.1, ?_, holdsB_far h.rest fun p e => Below.heap_setCell _ _ _ _ (h.apart g rfl p e), h.cap, fun p e => by
    obtain ⟨h1, ds, h2⟩ := h.u8 p e
    exact ⟨h1, ds, h2.far (p := ⟨g, k, none⟩) (h.apart g rfl p e) _⟩⟩, N.2⟩
  have := own_put h.ps k (.int .i64 q)
  rw [List.length_set, List.map_set]
  exact this
theorem DkC.drew (h : DkC w B a pv s m P bs v rg) : DkC w.drew B a pv s m P bs v rg ∧ Kp a w w.drew := ⟨h.below (Below.refl _ _).drew, Kp.of_below (Below.refl _ _).drew h.core.lt⟩
end
theorem or_low (v x : Int) (h0 : 0 ≤ v) (h1 : v < 72057594037927936) (hx : 0 ≤ x ∧ x ≤ 255) : bits .or .u64 (v * 256) x = v * 256 + x := by
  obtain ⟨k, rfl⟩ : ∃ k : Nat, v = k := ⟨v.toNat, by omega⟩
  obtain ⟨y, rfl⟩ : ∃ y : Nat, x = y := ⟨x.toNat, by omega⟩
  have := u64_or_nat (k * 256) y (by omega) (by omega)
  rw [show ((k * 256 : Nat) : Int) = (k : Int) * 256 by simp] at this
  rw [this]
  have h2 := Nat.shiftLeft_add_eq_or_of_lt (show y < 2 ^ 8 by omega) k
  rw [Nat.shiftLeft_eq] at h2
  rw [show (256 : Nat) = 2 ^ 8 by decide, ← h2]
  omega
/-- After take. -/
def Taken (B a : Nat) (pv : Value) (P bs : List Int) (v rg : Int) (w : World) (e : Ending) (w' : World) : Prop := e = .returned (.tuple #[]) ∧ (∃ s m, DkC w' B a pv s m P (bs.drop 1) (256 * v + bs.getD 0 0) rg) ∧ Kp a w w'
set_option maxHeartbeats 2000000 in
theorem take_c (w : World) (B a m : Nat) (pv : Value) (s : Option Addr) (P bs : List Int) (v rg : Int) (h : DkC w B a pv s m P bs v rg) (hv0 : 0 ≤ v) (hv1 : v < 72057594037927936) (hb : Am.bytes bs) (hl : bs.length ≤ 1000000000) :
    Calls Tryd.prog 81 #[.pointer (some ⟨a, 0, none⟩)] w (Taken B a pv P bs v rg w) := by
  obtain ⟨c0, c1, c2, c3, c4⟩ := h.cells
  have f := h.core.blk.free
  have H := Lib.hid h
  have hvb : v * 256 < 18446744073709551616 := by omega
  cases bs with
  | nil =>
    clear h
    go_enter Tryd.func81, Tryd.ntmps81
    go_wp2_with fail
    go_end0
    have V := H.out.val (v * 256)
    refine ⟨rfl, ⟨s, m, ?_⟩, V.2⟩
    show DkC _ B a pv s m P [] (256 * v + 0) rg
    rw [show 256 * v + 0 = v * 256 by omega]
    exact V.1
  | cons x t =>
    have hx := hb x (by simp)
    unfold Am.byte at hx
    obtain ⟨g, off, rfl, hg⟩ : ∃ g off, s = some ⟨g, off, none⟩ ∧ w.cell? ⟨g, off, none⟩ = some (.int .u8 x) := by
      rcases h.rest with h1 | ⟨g, off, h1, h2⟩
      · simp at h1
      · exact ⟨g, off, h1, h2 0 (by simp)⟩
    have hga : g ≠ a := h.pa.2 _ rfl
    have hg2 : (w.setCell ⟨a, 3, none⟩ (.int .u64 (v * 256))).cell? ⟨g, off, none⟩ = some (.int .u8 x) := cell_far _ hg hga
    have hcap := h.cap
    rw [List.length_cons] at c2 hcap
    have hor := or_low v x hv0 hv1 hx
    obtain ⟨W1, hW1⟩ : ∃ W1, W1 = w.setCell ⟨a, 3, none⟩ (.int .u64 (v * 256)) := ⟨_, rfl⟩
    have V := (H.out.val (v * 256))
    have hV1 : DkC W1 B a pv (some ⟨g, off, none⟩) m P (x :: t) (v * 256) rg := by rw [hW1]; exact V.1
    have hKV : Kp a w W1 := by rw [hW1]; exact V.2
    have gx : W1.cell? ⟨g, off, none⟩ = some (.int .u8 x) := by rw [hW1]; exact hg2
    obtain ⟨_, _, k2, k3, _⟩ := hV1.cells
    rw [List.length_cons] at k2
    have kf := hV1.core.blk.free
    have HV1 := Lib.hid hV1
    have HKV := Lib.hid hKV
    have HW1 := Lib.hid hW1
    have hxc : IntKind.u64.wrap x = x := by rw [IntKind.wrap_u64]; omega
    obtain ⟨m', rfl⟩ : ∃ m', m = m' + 1 := ⟨m - 1, by omega⟩
    have H8 : Hid (∀ W, DkC W B a pv (some ⟨g, off, none⟩) (m' + 1) P (x :: t) (v * 256 + x) rg → B ≤ g ∧ ∃ ds, Blk W g 5 ds) := fun W hW => hW.u8 ⟨g, off, none⟩ rfl
    clear h hb V hV1 hKV hg hg2 hW1
    go_enter Tryd.func81, Tryd.ntmps81
    go_upto_region 3 with fail
    rw [← HW1.out]
    clear c0 c1 c2 c3 c4 f
    go_region_law (fail)
    all_goals
      have V2 := HV1.out.val (v * 256 + x)
      have V3 := V2.1.drew
      obtain ⟨W2, hW2⟩ : ∃ W2, W2 = (W1.setCell ⟨a, 3, none⟩ (.int .u64 (v * 256 + x))).drew := ⟨_, rfl⟩
      rw [← hW2] at V3
      have hK2 : Kp a w W2 := by rw [hW2]; exact (HKV.out.trans V2.2).trans (by rw [← hW2]; exact V3.2)
      obtain ⟨_, _, l2, _, _⟩ := V3.1.cells
      rw [List.length_cons] at l2
      have lf := V3.1.core.blk.free
      have HV3 := Lib.hid V3.1
      have HK2 := Lib.hid hK2
      rw [← hW2]
      clear V2 V3 hW2 hK2 k2 k3 kf gx hxc hor
      by_cases hm0 : m' = 0
      · subst hm0
        go_wp2_with fail
        go_end0
        have ht : t = [] := by have := HV3.out.cap; simp at this; exact this
        subst ht
        have X := HV3.out.sub (some ⟨g, off, none⟩) 0 [] (.inl rfl) (Nat.le_refl _) (fun p hp => HV3.out.u8 p hp) (fun p hp => by simp at hp; subst hp; exact HV3.out.core.of (i := 2) (v := .slice (some ⟨g, off, none⟩) [x].length (0 + 1)) rfl rfl)
        refine ⟨rfl, ⟨some ⟨g, off, none⟩, 0, ?_⟩, HK2.out.trans X.2⟩
        show DkC _ B a pv _ _ P [] (256 * v + x) rg
        rw [show 256 * v + x = v * 256 + x by omega]
        exact X.1
      · have hm1 : 1 ≤ m' := by omega
        go_wp2_with fail
        go_end0
        have hr1 : HoldsB W2 (some ⟨g, off + 1, none⟩) t := by
          rcases HV3.out.rest with h1 | ⟨g', off', h1, h2⟩
          · simp at h1
          · simp at h1
            obtain ⟨rfl, rfl⟩ := h1
            refine .inr ⟨g, off + 1, rfl, fun k hk => ?_⟩
            have := h2 (k + 1) (by simp; omega)
            rw [show off + 1 + k = off + (k + 1) by omega, this]
            rfl
        have X := HV3.out.sub (some ⟨g, off + 1, none⟩) m' t hr1 (by have := HV3.out.cap; simp at this; omega) (fun p hp => by simp at hp; subst hp; exact HV3.out.u8 ⟨g, off, none⟩ rfl) (fun p hp => by simp at hp; subst hp; exact HV3.out.core.of (i := 2) (v := .slice (some ⟨g, off, none⟩) (x :: t).length (m' + 1)) rfl rfl)
        refine ⟨rfl, ⟨some ⟨g, off + 1, none⟩, m', ?_⟩, HK2.out.trans X.2⟩
        show DkC _ B a pv _ _ P t (256 * v + x) rg
        rw [show 256 * v + x = v * 256 + x by omega]
        exact X.1
end Go.Proofs.YtnmmgjbjnhiaoaaDoor
