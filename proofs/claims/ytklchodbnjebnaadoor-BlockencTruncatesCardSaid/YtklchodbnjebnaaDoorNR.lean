/-
  Layer 17: Encode whole; Valid.
  Layer 17: Truncate.
  Layer 17: Truncate's walk.
  Layer 17: the examples.
-/
import Derived.Test.YtklchodbnjebnaaDoorNQ
set_option maxRecDepth 100000
namespace Go.Proofs.YtklchodbnjebnaaDoor
open Go.RowKit

theorem encode_c (s : Option Addr) (l : List Int) (cp : Nat) (w h o : Int) (m : Mo) (W : World) (h144 : l.length ≤ 144) (hH : HoldsI W s l) (hT : Cx.Tabs W) (hr : ∀ v ∈ l, i64R v) :
    Calls Tryd.prog 15 #[.slice s l.length cp, .int .i64 w, .int .i64 h, .int .i64 o, m.val] W (EnG W l w h o m) := by
  have err : ∀ c : Int, c ≠ 0 → symE l w h o = c → (∀ W1 : World, Below W.heap.size W W1 → Calls Tryd.prog 23 #[.slice s l.length cp, .int .i64 w, .int .i64 h, .int .i64 o, m.val] W1 (SGv W1 c [])) → Calls Tryd.prog 15 #[.slice s l.length cp, .int .i64 w, .int .i64 h, .int .i64 o, m.val] W (EnG W l w h o m) :=
    fun c hc he ks => (encode_e s l cp w h o m W c hc ks).mono fun e w' z => ⟨z.2, .inl ⟨c, he.symm, hc, z.1⟩⟩
  by_cases hf : fits w h
  · obtain ⟨w0, rfl⟩ : ∃ n : Nat, w = n := ⟨w.toNat, by unfold fits at hf; omega⟩
    obtain ⟨h0, rfl⟩ : ∃ n : Nat, h = n := ⟨h.toNat, by unfold fits at hf; omega⟩
    by_cases hl : l.length = w0 * h0
    · have hl2 : ¬ ((l.length : Int) ≠ (w0 : Int) * (h0 : Int)) := by rw [hl, Int.natCast_mul]; simp
      by_cases ho : 0 ≤ o ∧ o ≤ 3
      · by_cases hv : ∃ v ∈ l, ¬ okV v
        · exact err 2 (by decide) (by unfold symE; rw [if_neg (by simpa using hf), if_neg hl2, if_neg (by omega), if_pos hv]) fun W1 hb => symbols_c3 s l cp w0 h0 o m W1 hf hl ho (hH.below hb (Nat.le_refl _)) (hT.below hb) hr 2 [] (fun _ => ⟨rfl, rfl⟩) fun hall => absurd hv (fun ⟨v, h1, h2⟩ => h2 (hall v h1))
        · have hok : ∀ v ∈ l, okV v := fun v h1 => Classical.byContradiction fun h2 => hv ⟨v, h1, h2⟩
          refine (encode_y s l cp w0 h0 o m W hf hl h144 ho hH hT hr hok).mono fun e w' z => ?_
          obtain ⟨z1, z2⟩ := z
          exact ⟨z1, .inr ⟨by unfold symE; rw [if_neg (by simpa using hf), if_neg hl2, if_neg (by omega), if_neg hv], z2⟩⟩
      · exact err 3 (by decide) (by unfold symE; rw [if_neg (by simpa using hf), if_neg hl2, if_pos (by omega)]) fun W1 hb => symbols_c2 s l cp w0 h0 o m W1 hf hl ho
    · exact err 4 (by decide) (by unfold symE; rw [if_neg (by simpa using hf), if_pos (by rw [← Int.natCast_mul]; omega)]) fun W1 hb => symbols_c1 s l cp w0 h0 o m W1 hf hl
  · exact err 2 (by decide) (by unfold symE; rw [if_pos hf]) fun W1 hb => symbols_c0 s l cp w h o m W1 hf
/-- The entry before. -/
def pvE (E : List Int) (k : Nat) : Int := if k = 0 then 0 else E.getD (k - 1) 0
def ascB (E : List Int) : Bool := (List.range E.length).all fun i => decide (pvE E i ≤ E.getD i 0)
theorem asc_iff (E : List Int) : ascB E = true ↔ ∀ i, i < E.length → pvE E i ≤ E.getD i 0 := by
  unfold ascB
  rw [List.all_eq_true]
  exact ⟨fun h i hi => by simpa using h i (List.mem_range.2 hi), fun h i hi => by simpa using h i (List.mem_range.1 hi)⟩
/-- The error of a coded block. -/
def vaE (pl : Int) (E : List Int) (d : Nat) : Int := if pl < 0 ∨ 60 < pl then 2 else if max 0 (3 * pl - 2) < (E.length : Int) then 4 else if ascB E = false then 4 else if pvE E E.length ≠ (d : Int) then 4 else if 65535 < d then 5 else 0
def VaG (pl : Int) (E : List Int) (d : Nat) (W : World) (e : Ending) (w' : World) : Prop := e = .returned (.int .i64 (vaE pl E d)) ∧ Below W.heap.size W w'
theorem pvE_succ (E : List Int) (k : Nat) (hk : k < E.length) : pvE E (k + 1) = E[k] := by
  unfold pvE; rw [if_neg (by omega)]; simp [List.getD, hk]
theorem getD_i (E : List Int) (k : Nat) (hk : k < E.length) : E.getD k 0 = E[k] := by simp [List.getD, hk]
set_option maxHeartbeats 4000000 in
theorem bvalid_c (pl : Int) (E : List Int) (se : Option Addr) (me : Nat) (sd : Option Addr) (d md : Nat) (m : Mo) (W : World) (hE : HoldsI W se E) (hl : E.length ≤ 1000000000) :
    Calls Tryd.prog 10 #[.agg #[.int .i64 pl, .slice se E.length me, .slice sd d md], m.val] W (VaG pl E d W) := by
  obtain ⟨mb, mr, ms, mc, my⟩ := m
  unfold Mo.val
  dsimp only
  have hmx9 := fun x y : Int => hmx x y
  obtain ⟨va, hva⟩ : ∃ v, v = vaE pl E d := ⟨_, rfl⟩
  unfold VaG
  rw [← hva]
  have HVA := Lib.hid hva
  obtain ⟨WA, hWA⟩ : ∃ x, x = (W.alloc (.cells #[.int .i64 pl, .slice se E.length me, .slice sd d md] 25)).alloc (.cells #[.bool mb, .bool mr, .bool ms, .bool mc, .bool my] 27) := ⟨_, rfl⟩
  have hB : Below W.heap.size W WA := by rw [hWA]; exact below_alloc (below_alloc (Below.refl _ W) _) _
  have hX : Blk WA W.heap.size 25 #[.int .i64 pl, .slice se E.length me, .slice sd d md] := by rw [hWA]; exact (Blk.new W _ _).alloc _
  have HB := Lib.hid hB
  have HX := Lib.hid hX
  have HE := Lib.hid (hE.below hB (Nat.le_refl _))
  have HL := Lib.hid hl
  have HWA := Lib.hid hWA
  clear hva hB hX hE hl hWA
  by_cases h1 : pl < 0
  · go_enter Tryd.func10, Tryd.ntmps10
    go_wp2_with fail
    go_ret
    exact ⟨by show Ending.returned (.int .i64 2) = _; rw [HVA.out]; unfold vaE; rw [if_pos (.inl h1)], by rw [← HWA.out]; exact HB.out⟩
  · by_cases h2 : 60 < pl
    · go_enter Tryd.func10, Tryd.ntmps10
      go_wp2_with fail
      go_ret
      exact ⟨by show Ending.returned (.int .i64 2) = _; rw [HVA.out]; unfold vaE; rw [if_pos (.inr h2)], by rw [← HWA.out]; exact HB.out⟩
    · have w1 : IntKind.i64.wrap (3 * pl) = 3 * pl := by rw [IntWalk.i64_left]; unfold wrap64; omega
      have w2 : IntKind.i64.wrap (3 * pl - 2) = 3 * pl - 2 := by rw [IntWalk.i64_left]; unfold wrap64; omega
      have H12 := Lib.hid (show ¬ (pl < 0 ∨ 60 < pl) by omega)
      by_cases h3 : max 0 (3 * pl - 2) < (E.length : Int)
      · have H3 := Lib.hid h3
        generalize hmm : max 0 (3 * pl - 2) = mx at *
        have HMM := Lib.hid hmm
        go_enter Tryd.func10, Tryd.ntmps10
        go_wp2_with fail
        go_ret
        exact ⟨by show Ending.returned (.int .i64 4) = _; rw [HVA.out]; unfold vaE; rw [if_neg H12.out, if_pos (by have := H3.out; rw [HMM.out]; omega)], by rw [← HWA.out]; exact HB.out⟩
      · have H3 := Lib.hid h3
        generalize hmm : max 0 (3 * pl - 2) = mx at *
        have HMM := Lib.hid hmm
        go_enter Tryd.func10, Tryd.ntmps10
        go_wp2_with fail
        rw [← HWA.out]
        go_loopw [5, 28] (fun e i wr => ∃ k : Nat, k ≤ E.length ∧ i = .int .i64 (k : Int) ∧ e = .int .i64 (pvE E k) ∧ wr = WA ∧ Hid (∀ i, i < k → pvE E i ≤ E.getD i 0)) (fun _ i _ => E.length - (intOf i).toNat)
        case atStart => exact ⟨0, Nat.zero_le _, rfl, rfl, rfl, fun i hi => by omega⟩
        case round =>
          obtain ⟨k, hk, rfl, rfl, rfl, hA⟩ := hrel
          obtain ⟨x0, x1, x2⟩ : wr.cell? ⟨W.heap.size, 0, none⟩ = some (.int .i64 pl) ∧ wr.cell? ⟨W.heap.size, 1, none⟩ = some (.slice se E.length me) ∧ wr.cell? ⟨W.heap.size, 2, none⟩ = some (.slice sd d md) := ⟨HX.out.cell 0, HX.out.cell 1, HX.out.cell 2⟩
          by_cases hlt : k < E.length
          · obtain ⟨b, off, rfl, hr⟩ := HE.out.resolve_left (fun h => by rw [h] at hlt; simp at hlt)
            have c0 := hr k hlt
            have hgd := getD_i E k hlt
            have hsc := pvE_succ E k hlt
            obtain ⟨x, hx⟩ : ∃ x, x = E[k] := ⟨_, rfl⟩
            rw [← hx] at c0 hgd hsc
            obtain ⟨p, hp⟩ : ∃ p, p = pvE E k := ⟨_, rfl⟩
            rw [← hp]
            have HP := Lib.hid hp
            have HGD := Lib.hid hgd
            have HSC := Lib.hid hsc
            have HLT := Lib.hid hlt
            have wk : IntKind.i64.wrap ((k : Int) + 1) = ((k + 1 : Nat) : Int) := by have := HL.out; rw [IntWalk.i64_left]; unfold wrap64; omega
            clear hx hp hgd hsc hr hk
            by_cases hc : x < p
            · go_wp2_with fail
              go_ret
              refine ⟨?_, HB.out⟩
              show Ending.returned (.int .i64 4) = _
              rw [HVA.out]
              unfold vaE
              have hb : ascB E = false := by
                cases hb : ascB E with
                | false => rfl
                | true =>
                  exfalso
                  have := (asc_iff E).1 hb k HLT.out
                  rw [HGD.out, ← HP.out] at this
                  omega
              rw [if_neg H12.out, if_neg (by have := H3.out; rw [HMM.out]; omega), if_pos hb]
            · have HC := Lib.hid hc
              go_wp2_with fail
              go_roundw
              case rel => exact ⟨k + 1, HLT.out, by go_num, by rw [HSC.out], (by first | trivial | rfl), fun i hi => by
                rcases Nat.lt_or_ge i k with h | h
                · exact hA.out i h
                · obtain rfl : i = k := by omega
                  rw [HGD.out, ← HP.out]; have := HC.out; omega⟩
              case measure => have := HLT.out; simp [intOf]; omega
          · obtain rfl : k = E.length := by omega
            have HAS := Lib.hid ((asc_iff E).2 hA.out)
            obtain ⟨p, hp⟩ : ∃ p, p = pvE E E.length := ⟨_, rfl⟩
            rw [← hp]
            have HP := Lib.hid hp
            clear hp hk hA hlt
            by_cases hd : p = (d : Int)
            · by_cases hb : (65535 : Int) < (d : Int)
              · have HD := Lib.hid hd
                have HBG := Lib.hid hb
                subst hd
                go_wp2_with fail
                go_ret
                refine ⟨?_, HB.out⟩
                show Ending.returned (.int .i64 5) = _
                rw [HVA.out]
                unfold vaE
                rw [if_neg H12.out, if_neg (by have := H3.out; rw [HMM.out]; omega), if_neg (by rw [HAS.out]; simp), if_neg (by rw [← HP.out]; simp), if_pos (by have := HBG.out; omega)]
              · have HBG := Lib.hid hb
                subst hd
                go_wp2_with fail
                go_ret
                refine ⟨?_, HB.out⟩
                show Ending.returned (.int .i64 0) = _
                rw [HVA.out]
                unfold vaE
                rw [if_neg H12.out, if_neg (by have := H3.out; rw [HMM.out]; omega), if_neg (by rw [HAS.out]; simp), if_neg (by rw [← HP.out]; simp), if_neg (by have := HBG.out; omega)]
            · have HD := Lib.hid hd
              go_wp2_with fail
              go_ret
              refine ⟨?_, HB.out⟩
              show Ending.returned (.int .i64 4) = _
              rw [HVA.out]
              unfold vaE
              rw [if_neg H12.out, if_neg (by have := H3.out; rw [HMM.out]; omega), if_neg (by rw [HAS.out]; simp), if_pos (by rw [← HP.out]; exact HD.out)]
end Go.Proofs.YtklchodbnjebnaaDoor
set_option maxRecDepth 100000
namespace Go.Proofs.YtklchodbnjebnaaDoor
open Go.RowKit

theorem holdsI_take {w : World} {s : Option Addr} {l : List Int} (h : HoldsI w s l) (n : Nat) : HoldsI w s (l.take n) := by
  rcases h with rfl | ⟨b, off, rfl, hr⟩
  · left; simp
  · refine .inr ⟨b, off, rfl, fun k hk => ?_⟩
    rw [List.length_take] at hk
    rw [List.getElem_take]
    exact hr k (by omega)
def GivesI9 (l : List Int) (w : World) (e : Ending) (w' : World) : Prop := ∃ v, e = .returned v ∧ w'.ownsRow w.heap.size 3 1 v l.length (l.map (Value.int .i64)) ∧ Below w.heap.size w w'
theorem sclone_some (w : World) (l : List Int) (p : Addr) (m : Nat) (hH : HoldsI w (some p) l) (hl : l.length ≤ 1000000000) :
    Calls Tryd.prog 21 #[.slice (some p) l.length m] w (GivesI9 l w) := by
  obtain ⟨i0, hi, hz0, hz1, hz2⟩ := info_parts infoI
  have HN := Lib.hid (fun X => holdsI_list (hH.below ((Below.refl w.heap.size w).alloc (Nat.le_refl _) X) (Nat.le_refl _)))
  have HA := Lib.hid (fun X => (Below.refl w.heap.size w).alloc (Nat.le_refl _) X)
  have hn : ∀ (w : World) (a : Option Addr) (n c n' c' : Nat), (binOp .eql 22 (.slice a n c) (.slice none n' c')).run Tryd.prog w = .ok (.bool a.isNone) w := fun w a n c n' c' => Go.Lib.run_eql_slice_nil w _ _ a n c n' c' Tryd.underlying22
  clear hH
  go_enter Tryd.func21, Tryd.ntmps21
  go_wp2_with (first | (at_builtin; refine wpList_append_own_at _ rfl _ _ 22 rfl w.heap.size 3 i0 (.int .i64 0) 1 8 Tryd.underlying22 hi hz0 hz1 hz2 rfl (by decide) _ 0 [] rfl (World.ownsRow_made w #[] 0 (Nat.le_refl _) (by decide) (by simp)) p l.length m (l.map (Value.int .i64)) rfl (by simp) (HN.out _) (oneI l) (by unfold maxLen; omega) (by omega) (by simp) ?_))
  intro v' w2 hown hgrow _ hat
  have hown2 : w2.ownsRow w.heap.size 3 1 v' l.length (l.map (Value.int .i64)) := by simpa using hown
  have hb : Below w.heap.size w w2 := (HA.out _).grown hgrow (by simp) (fun k hk => by simp [Value.ownBlock] at hk; omega)
  have HO := Lib.hid hown2
  have HB := Lib.hid hb
  clear hown hown2 hgrow hat hb
  go_wp2_with fail
  go_ret
  exact ⟨v', rfl, HO.out, HB.out⟩
/-- What a valid block's entries are. -/
theorem va_ok {pl : Int} {E : List Int} {d : Nat} (h : vaE pl E d = 0) : 0 ≤ pl ∧ pl ≤ 60 ∧ (E.length : Int) ≤ max 0 (3 * pl - 2) ∧ ascB E = true ∧ pvE E E.length = (d : Int) ∧ d ≤ 65535 := by
  unfold vaE at h
  by_cases h1 : pl < 0 ∨ 60 < pl
  · rw [if_pos h1] at h; omega
  rw [if_neg h1] at h
  by_cases h2 : max 0 (3 * pl - 2) < (E.length : Int)
  · rw [if_pos h2] at h; omega
  rw [if_neg h2] at h
  by_cases h3 : ascB E = false
  · rw [if_pos h3] at h; omega
  rw [if_neg h3] at h
  by_cases h4 : pvE E E.length ≠ (d : Int)
  · rw [if_pos h4] at h; omega
  rw [if_neg h4] at h
  by_cases h5 : 65535 < d
  · rw [if_pos h5] at h; omega
  exact ⟨by omega, by omega, by omega, by simpa using h3, by omega, by omega⟩
theorem va_of {pl : Int} {E : List Int} {d : Nat} (h1 : 0 ≤ pl) (h2 : pl ≤ 60) (h3 : (E.length : Int) ≤ max 0 (3 * pl - 2)) (h4 : ascB E = true) (h5 : pvE E E.length = (d : Int)) (h6 : d ≤ 65535) : vaE pl E d = 0 := by
  unfold vaE
  rw [if_neg (by omega), if_neg (by omega), if_neg (by simp [h4]), if_neg (by simp [h5]), if_neg (by omega)]
theorem pv_step {E : List Int} (h : ascB E = true) {n : Nat} (hn : n < E.length) : pvE E n ≤ pvE E (n + 1) := by
  rw [pvE_succ E n hn, ← getD_i E n hn]
  exact (asc_iff E).1 h n hn
theorem pv_mono {E : List Int} (h : ascB E = true) {n : Nat} : ∀ k, n + k ≤ E.length → pvE E n ≤ pvE E (n + k) := by
  intro k
  induction k with
  | zero => intro _; exact Int.le_refl _
  | succ k ih => intro hk; exact Int.le_trans (ih (by omega)) (pv_step h (by omega))
theorem pv_le {E : List Int} (h : ascB E = true) {n m : Nat} (hnm : n ≤ m) (hm : m ≤ E.length) : pvE E n ≤ pvE E m := by
  have := pv_mono h (n := n) (m - n) (by omega)
  rwa [Nat.add_sub_cancel' hnm] at this
theorem pv_nn {E : List Int} (h : ascB E = true) {n : Nat} (hn : n ≤ E.length) : 0 ≤ pvE E n := by
  have h0 : pvE E 0 = 0 := rfl
  have := pv_le h (Nat.zero_le n) hn
  omega
theorem pv_take (E : List Int) {n k : Nat} (hk : k ≤ n) : pvE (E.take n) k = pvE E k := by
  unfold pvE
  by_cases h : k = 0
  · rw [if_pos h, if_pos h]
  · rw [if_neg h, if_neg h, List.getD_eq_getElem?_getD, List.getD_eq_getElem?_getD, List.getElem?_take_of_lt (by omega)]
def trE (pl : Int) (E : List Int) (d : Nat) (p : Int) : Int := if vaE pl E d ≠ 0 then vaE pl E d else if p < 0 ∨ (E.length : Int) < p then 2 else 0
/-- The bytes of the first passes. -/
def trD (E D : List Int) (n : Nat) : List Int := D.take (pvE E n).toNat
def TrG (pl : Int) (E D : List Int) (p : Int) (W : World) (e : Ending) (w' : World) : Prop :=
  Below W.heap.size W w' ∧ ((trE pl E D.length p ≠ 0 ∧ e = .returned (.tuple #[zeroC, .int .i64 (trE pl E D.length p)])) ∨
    (trE pl E D.length p = 0 ∧ ∃ v, e = .returned (.tuple #[v, .int .i64 0]) ∧ CvAt w' v pl (E.take p.toNat) (trD E D p.toNat) ∧ CvNew W.heap.size v))
theorem cvNew_mk {B : Nat} {x : Value} {se sd : Option Addr} {ne me nd md : Nat} (h1 : ∀ p, se = some p → B ≤ p.block) (h2 : ∀ p, sd = some p → B ≤ p.block) : CvNew B (.agg #[x, .slice se ne me, .slice sd nd md]) := by
  intro x' se' ne' me' sd' nd' md' e
  simp at e
  obtain ⟨_, ⟨rfl, _⟩, rfl, _⟩ := e
  exact ⟨h1, h2⟩
end Go.Proofs.YtklchodbnjebnaaDoor
set_option maxRecDepth 100000
namespace Go.Proofs.YtklchodbnjebnaaDoor
open Go.RowKit

set_option maxHeartbeats 4000000 in
theorem btrunc_c (pl p : Int) (E D : List Int) (v : Value) (m : Mo) (W : World) (hv : CvAt W v pl E D) (hl : E.length ≤ 1000000000) :
    Calls Tryd.prog 12 #[v, .int .i64 p, m.val] W (TrG pl E D p W) := by
  obtain ⟨se, me, sd, md9, rfl, hE, hD, hme, hmd, hen, hdn⟩ := hv
  have kv := fun (W1 : World) (hb : Below W.heap.size W W1) => bvalid_c pl E se me sd D.length md9 m W1 (hE.below hb (Nat.le_refl _)) hl
  obtain ⟨va, hva⟩ : ∃ x, x = vaE pl E D.length := ⟨_, rfl⟩
  unfold VaG at kv
  rw [← hva] at kv
  obtain ⟨mb, mr, ms, mc, my⟩ := m
  unfold Mo.val at *
  dsimp only at *
  obtain ⟨WA, hWA⟩ : ∃ x, x = ((W.alloc (.cells #[.int .i64 pl, .slice se E.length me, .slice sd D.length md9] 25)).alloc (.cells #[.bool mb, .bool mr, .bool ms, .bool mc, .bool my] 27)).alloc (.cells #[.int .i64 0, .slice none 0 0, .slice none 0 0] 25) := ⟨_, rfl⟩
  have hB : Below W.heap.size W WA := by rw [hWA]; exact below_alloc (below_alloc (below_alloc (Below.refl _ W) _) _) _
  have CB0 : Blk WA W.heap.size 25 #[.int .i64 pl, .slice se E.length me, .slice sd D.length md9] := by rw [hWA]; exact ((Blk.new W _ _).alloc _).alloc _
  have RB0 : Blk WA (W.heap.size + 2) 25 #[.int .i64 0, .slice none 0 0, .slice none 0 0] := by
    have := Blk.new ((W.alloc (.cells #[.int .i64 pl, .slice se E.length me, .slice sd D.length md9] 25)).alloc (.cells #[.bool mb, .bool mr, .bool ms, .bool mc, .bool my] 27)) 25 #[.int .i64 0, .slice none 0 0, .slice none 0 0]
    rw [hWA]; simpa using this
  have k := kv WA hB
  rw [hWA] at k
  have HB := Lib.hid hB
  have HCB := Lib.hid CB0
  have HRB := Lib.hid RB0
  have HWA := Lib.hid hWA
  have HVA := Lib.hid hva
  have HE := Lib.hid hE
  have HD := Lib.hid hD
  have HL := Lib.hid hl
  have HEN := Lib.hid hen
  have HDN := Lib.hid hdn
  have HME := Lib.hid hme
  have HMD := Lib.hid hmd
  clear kv hva hB CB0 RB0 hWA hE hD hl hen hdn hme hmd
  have fin : ∀ (w1 : World) (x y z : Value), Below W.heap.size W w1 → Below W.heap.size W (((w1.setCell ⟨W.heap.size + 2, 0, none⟩ x).setCell ⟨W.heap.size + 2, 1, none⟩ y).setCell ⟨W.heap.size + 2, 2, none⟩ z) := fun w1 x y z h => ((h.setCell (p := ⟨W.heap.size + 2, 0, none⟩) (by show W.heap.size ≤ W.heap.size + 2; omega) _).setCell (p := ⟨W.heap.size + 2, 1, none⟩) (by show W.heap.size ≤ W.heap.size + 2; omega) _).setCell (p := ⟨W.heap.size + 2, 2, none⟩) (by show W.heap.size ≤ W.heap.size + 2; omega) _
  have FIN := Lib.hid fin
  clear fin
  by_cases h0 : va = 0
  · subst h0
    by_cases h1 : p < 0
    · go_enter Tryd.func12, Tryd.ntmps12
      go_wp2_with (first | (go_at_call 10; (with_reducible refine k.mono ?_); rintro e w1 ⟨rfl, hb⟩; have B1 := Lib.hid (show Below WA.heap.size WA w1 by rw [HWA.out]; exact hb); have CB1 := Lib.hid (HCB.out.below B1.out); have RB1 := Lib.hid (HRB.out.below B1.out); have x0 := CB1.out.cell 0; have x1 := CB1.out.cell 1; have x2 := CB1.out.cell 2; have b0 := RB1.out.cell 0; have b1 := RB1.out.cell 1; have b2 := RB1.out.cell 2; have f0 := RB1.out.free 0; have f1 := RB1.out.free 1; have f2 := RB1.out.free 2; clear hb))
      (try simp only [Exit.inBlock, Exit.then])
      refine bodyPost_ret (results_coded rfl _ rfl rfl (RB1.out.set3 _ _ _)) rfl ?_
      have ht : trE pl E D.length p = 2 := by unfold trE; rw [if_neg (by rw [← HVA.out]; simp), if_pos (.inl h1)]
      exact ⟨FIN.out _ _ _ _ (below_call HB.out B1.out), .inl ⟨by rw [ht]; decide, by rw [ht]; rfl⟩⟩
    · by_cases h2 : (E.length : Int) < p
      · go_enter Tryd.func12, Tryd.ntmps12
        go_wp2_with (first | (go_at_call 10; (with_reducible refine k.mono ?_); rintro e w1 ⟨rfl, hb⟩; have B1 := Lib.hid (show Below WA.heap.size WA w1 by rw [HWA.out]; exact hb); have CB1 := Lib.hid (HCB.out.below B1.out); have RB1 := Lib.hid (HRB.out.below B1.out); have x0 := CB1.out.cell 0; have x1 := CB1.out.cell 1; have x2 := CB1.out.cell 2; have b0 := RB1.out.cell 0; have b1 := RB1.out.cell 1; have b2 := RB1.out.cell 2; have f0 := RB1.out.free 0; have f1 := RB1.out.free 1; have f2 := RB1.out.free 2; clear hb))
        (try simp only [Exit.inBlock, Exit.then])
        refine bodyPost_ret (results_coded rfl _ rfl rfl (RB1.out.set3 _ _ _)) rfl ?_
        have ht : trE pl E D.length p = 2 := by unfold trE; rw [if_neg (by rw [← HVA.out]; simp), if_pos (.inr h2)]
        exact ⟨FIN.out _ _ _ _ (below_call HB.out B1.out), .inl ⟨by rw [ht]; decide, by rw [ht]; rfl⟩⟩
      · obtain ⟨n, rfl⟩ : ∃ n : Nat, p = n := ⟨p.toNat, by omega⟩
        have hnl : n ≤ E.length := by omega
        have ht : Hid (trE pl E D.length (n : Int) = 0) := by show _ = _; unfold trE; rw [if_neg (by rw [← HVA.out]; simp), if_neg (by omega)]
        obtain ⟨v1, v2, v3, v4, v5, v6⟩ := va_ok HVA.out.symm
        have HNL := Lib.hid hnl
        by_cases hn0 : n = 0
        · subst hn0
          clear v1 v2 v3 v4 v5 v6 hnl
          go_enter Tryd.func12, Tryd.ntmps12
          go_wp2_with (first | (go_at_call 10; (with_reducible refine k.mono ?_); rintro e w1 ⟨rfl, hb⟩; have B1 := Lib.hid (show Below WA.heap.size WA w1 by rw [HWA.out]; exact hb); have CB1 := Lib.hid (HCB.out.below B1.out); have RB1 := Lib.hid (HRB.out.below B1.out); have x0 := CB1.out.cell 0; have x1 := CB1.out.cell 1; have x2 := CB1.out.cell 2; have RB2 := Lib.hid (RB1.out.alloc (.cells #[.int .i64 pl, .slice none 0 0, .slice none 0 0] 25)); have b0 := RB2.out.cell 0; have b1 := RB2.out.cell 1; have b2 := RB2.out.cell 2; have f0 := RB2.out.free 0; have f1 := RB2.out.free 1; have f2 := RB2.out.free 2; clear hb))
          (try simp only [Exit.inBlock, Exit.then])
          refine bodyPost_ret (results_coded rfl _ rfl rfl (RB2.out.set3 _ _ _)) rfl ?_
          refine ⟨FIN.out _ _ _ _ ((below_call HB.out B1.out).alloc (below_call HB.out B1.out).size _), .inr ⟨ht.out, .agg #[.int .i64 pl, .slice none 0 0, .slice none 0 0], rfl, ?_, ?_⟩⟩
          · exact ⟨none, 0, none, 0, rfl, .inl rfl, .inl rfl, by simp, by simp [trD, pvE], fun _ => ⟨rfl, rfl⟩, fun _ => ⟨rfl, rfl⟩⟩
          · exact cvNew_mk (fun p hp => by cases hp) (fun p hp => by cases hp)
        · obtain ⟨n1, hn1⟩ : ∃ k, n = k + 1 := ⟨n - 1, by omega⟩
          obtain ⟨be, oe, rfl⟩ : ∃ b off, se = some ⟨b, off, none⟩ := by
            rcases HE.out with h | ⟨b, off, h, _⟩
            · exfalso; rw [h] at hnl; simp at hnl; omega
            · exact ⟨b, off, h⟩
          have hEn := HE.out.resolve_left (fun h => by rw [h] at hnl; simp at hnl; omega)
          have hi1 : n1 < E.length := by omega
          have hpv0 := pvE_succ E n1 hi1
          have hq0 := pv_nn v4 hnl
          have hq1 := pv_le v4 hnl (Nat.le_refl _)
          rw [v5] at hq1
          have hpv : pvE E n = E[n1] := (congrArg (pvE E) hn1).trans hpv0
          clear hpv0
          obtain ⟨q, hq⟩ : ∃ q : Nat, pvE E n = q := ⟨(pvE E n).toNat, by omega⟩
          have HQ := Lib.hid hq
          have hqd : q ≤ D.length := by omega
          have HQD := Lib.hid hqd
          have ks := fun (w : World) (hb : Below W.heap.size W w) => sclone_some w (E.take n) ⟨be, oe, none⟩ me ((holdsI_take HE.out n).below hb (Nat.le_refl _)) (by rw [List.length_take]; have := HL.out; omega)
          have htl : (E.take n).length = n := by rw [List.length_take]; omega
          rw [htl] at ks
          obtain ⟨dq, hdq⟩ : ∃ x, x = D.take q := ⟨_, rfl⟩
          have HDQ := Lib.hid hdq
          have kb := fun (w : World) (hb : Below W.heap.size W w) => clone_c w (D.take q) sd md9 ((HD.out.take q).call hb) (fun h => by obtain ⟨h1, h2⟩ := HDN.out h; exact ⟨by rw [h1]; simp, h2⟩) (by rw [List.length_take]; omega)
          rw [← hdq] at kb
          have hql : dq.length = q := by rw [hdq, List.length_take]; omega
          have hkb : ∀ (w : World), Below W.heap.size W w → Calls Tryd.prog 22 #[.slice sd q md9] w (GivesB dq w) := fun w hb => by have := kb w hb; rw [hql] at this; exact this
          clear kb hdq
          have kb := hkb
          clear hkb
          obtain ⟨b', off', eo, hr⟩ := hEn
          simp at eo
          obtain ⟨rfl, rfl⟩ := eo
          have hcn := fun (w : World) (hb : Below W.heap.size W w) => (hb.cell (p := ⟨be, oe + n1, none⟩) (cell_lt (hr n1 hi1))).trans (hr n1 hi1)
          rw [← hpv, hq] at hcn
          have KS := Lib.hid ks
          have KB := Lib.hid kb
          have HCN := Lib.hid hcn
          have HTL := Lib.hid htl
          have HQL := Lib.hid hql
          have hm1 : ¬ me = 0 := by have := HME.out; omega
          have hm2 : n ≤ me := by have := HME.out; omega
          have hm3 : q ≤ md9 := by have := HMD.out; omega
          have hn2 : (0 : Int) < (n : Int) := by omega
          have wn1 : IntKind.i64.wrap ((n : Int) - 1) = (n1 : Int) := by have := HL.out; rw [IntWalk.i64_left]; unfold wrap64; omega
          have HN1 := Lib.hid hn1
          clear ks kb hcn hr htl hql hpv hq0 hq1 hq hn0 hn1 v1 v2 v3 v4 v5 v6 hqd h2
          go_enter Tryd.func12, Tryd.ntmps12
          go_wp2_with (first | (go_at_call 10; (with_reducible refine k.mono ?_); rintro e w1 ⟨rfl, hb⟩; have B1 := Lib.hid (show Below WA.heap.size WA w1 by rw [HWA.out]; exact hb); have CB1 := Lib.hid (HCB.out.below B1.out); have RB1 := Lib.hid (HRB.out.below B1.out); have x0 := CB1.out.cell 0; have x1 := CB1.out.cell 1; have x2 := CB1.out.cell 2; have y1 := (CB1.out.alloc (.cells #[.int .i64 pl, .slice none 0 0, .slice none 0 0] 25)).cell 1; have b0 := RB1.out.cell 0; have b1 := RB1.out.cell 1; have b2 := RB1.out.cell 2; have f0 := RB1.out.free 0; have f1 := RB1.out.free 1; have f2 := RB1.out.free 2; clear hb) | (go_at_call 21; (with_reducible refine (KS.out _ (below_alloc (below_call HB.out B1.out) _)).mono ?_); rintro e w2 ⟨v2, rfl, hO2, hb2⟩; obtain ⟨s2, m2, rfl⟩ := own_slice hO2; have O2 := Lib.hid hO2; have B2 := Lib.hid hb2; have CB2 := Lib.hid ((CB1.out.alloc (.cells #[.int .i64 pl, .slice none 0 0, .slice none 0 0] 25)).below hb2); have TB2 := Lib.hid ((Blk.new w1 25 #[.int .i64 pl, .slice none 0 0, .slice none 0 0]).below hb2); have RB2 := Lib.hid ((RB1.out.alloc (.cells #[.int .i64 pl, .slice none 0 0, .slice none 0 0] 25)).below hb2); have W2B := Lib.hid (below_call (below_alloc (below_call HB.out B1.out) _) hb2); have t1 := TB2.out.cell 1; have g1 := TB2.out.free 1; clear hO2 hb2))
          have hlt1 : W.heap.size + 2 < w1.heap.size := RB1.out.lt
          have hs1 : (w1.alloc (.cells #[.int .i64 pl, .slice none 0 0, .slice none 0 0] 25)).heap.size = w1.heap.size + 1 := by simp
          have hs2 : w1.heap.size + 1 ≤ w2.heap.size := by have := B2.out.size; rw [hs1] at this; exact this
          have CB3 := CB2.out.far (p := ⟨w1.heap.size, 1, none⟩) (by show W.heap.size ≠ w1.heap.size; omega) (.slice s2 n m2)
          have RB3 := RB2.out.far (p := ⟨w1.heap.size, 1, none⟩) (by show W.heap.size + 2 ≠ w1.heap.size; omega) (.slice s2 n m2)
          have TB3 : Blk (w2.setCell ⟨w1.heap.size, 1, none⟩ (.slice s2 n m2)) w1.heap.size 25 #[.int .i64 pl, .slice s2 n m2, .slice none 0 0] := TB2.out.set 1 _
          have W3B := W2B.out.setCell (p := ⟨w1.heap.size, 1, none⟩) (by show W.heap.size ≤ w1.heap.size; omega) (.slice s2 n m2)
          have hE3 : ∀ k, k ≠ w1.heap.size → (w2.setCell ⟨w1.heap.size, 1, none⟩ (.slice s2 n m2)).heap[k]? = w2.heap[k]? := fun k hk => Below.heap_setCell _ _ _ k hk
          have hs3 : (w2.setCell ⟨w1.heap.size, 1, none⟩ (.slice s2 n m2)).heap.size = w2.heap.size := by simp [World.setCell]
          generalize hw3 : w2.setCell ⟨w1.heap.size, 1, none⟩ (.slice s2 n m2) = w3 at *
          have HW3 := Lib.hid hw3
          have c0 := HCN.out w3 W3B
          have x1 := CB3.cell 1
          have x2 := CB3.cell 2
          have x0 := CB3.cell 0
          have HTB3 := Lib.hid TB3
          have HRB3 := Lib.hid RB3
          have HE3 := Lib.hid hE3
          have HS3 := Lib.hid hs3
          have HS2 := Lib.hid hs2
          have HS1 := Lib.hid hs1
          have HLT1 := Lib.hid hlt1
          have W3 := Lib.hid W3B
          have kb := KB.out w3.drew (below_call W3B (Below.refl _ _).drew)
          have hi2 : (n1 : Int) < (E.length : Int) := by omega
          have hi0 : (0 : Int) ≤ (n1 : Int) := by omega
          have hq9 : (0 : Int) ≤ (q : Int) := by omega
          have hqm : (q : Int) ≤ (md9 : Int) := by omega
          clear TB3 RB3 hE3 hs3 hs2 hs1 hlt1 W3B hw3 CB3 b0 b1 b2 f0 f1 f2 y1 t1 g1
          go_region_law (first | (go_simp; go_at_call 22; (with_reducible refine kb.mono ?_); rintro e w4 ⟨v4, rfl, hO4, hb4⟩; obtain ⟨s4, m4, rfl⟩ := own_slice hO4; have O4 := Lib.hid hO4; have B4 := Lib.hid hb4; have TB4 := Lib.hid (HTB3.out.drew.below hb4); have t0 := TB4.out.cell 0; have t1 := TB4.out.cell 1; have t2 := TB4.out.cell 2; have g0 := TB4.out.free 0; have g1 := TB4.out.free 1; have g2 := TB4.out.free 2; have RB4 := Lib.hid (HRB3.out.drew.below hb4); have b0 := RB4.out.cell 0; have b1 := RB4.out.cell 1; have b2 := RB4.out.cell 2; have f0 := RB4.out.free 0; have f1 := RB4.out.free 1; have f2 := RB4.out.free 2; clear hO4 hb4) | fail)
          all_goals
            have TB5 : Blk (w4.setCell ⟨w1.heap.size, 2, none⟩ (.slice s4 dq.length m4)) w1.heap.size 25 #[.int .i64 pl, .slice s2 n m2, .slice s4 dq.length m4] := TB4.out.set 2 _
            have RB5 := RB4.out.far (p := ⟨w1.heap.size, 2, none⟩) (by have := HLT1.out; show W.heap.size + 2 ≠ w1.heap.size; omega) (.slice s4 dq.length m4)
            have hE5 : ∀ k, k ≠ w1.heap.size → (w4.setCell ⟨w1.heap.size, 2, none⟩ (.slice s4 dq.length m4)).heap[k]? = w4.heap[k]? := fun k hk => Below.heap_setCell _ _ _ k hk
            have W5B : Below W.heap.size W (w4.setCell ⟨w1.heap.size, 2, none⟩ (.slice s4 dq.length m4)) := (below_call (below_call W3.out (Below.refl _ _).drew) B4.out).setCell (p := ⟨w1.heap.size, 2, none⟩) (by have := HLT1.out; show W.heap.size ≤ w1.heap.size; omega) _
            clear t0 t1 t2 g0 g1 g2 b0 b1 b2 f0 f1 f2
            generalize hw5 : w4.setCell ⟨w1.heap.size, 2, none⟩ (.slice s4 dq.length m4) = w5 at *
            have t0 := TB5.cell 0
            have t1 := TB5.cell 1
            have t2 := TB5.cell 2
            have b0 := RB5.cell 0
            have b1 := RB5.cell 1
            have b2 := RB5.cell 2
            have f0 := RB5.free 0
            have f1 := RB5.free 1
            have f2 := RB5.free 2
            have HRB5 := Lib.hid RB5
            have HE5 := Lib.hid hE5
            have HW5 := Lib.hid W5B
            clear TB5 RB5 hE5 W5B hw5
            go_wp2_with fail
            (try simp only [Exit.inBlock, Exit.then])
            refine bodyPost_ret (results_coded rfl _ rfl rfl (HRB5.out.set3 _ _ _)) rfl ?_
            refine ⟨FIN.out _ _ _ _ HW5.out, .inr ⟨ht.out, .agg #[.int .i64 pl, .slice s2 n m2, .slice s4 dq.length m4], rfl, ?_, ?_⟩⟩
            · obtain ⟨hH2, hc2, hn2'⟩ := own_capI (l := E.take n) O2.out
              obtain ⟨_, s', m', e9, hH4, ⟨hc4, _⟩, hn4⟩ := HoldsB.of_own O4.out
              simp at e9
              obtain ⟨rfl, rfl⟩ := e9
              have q1 : (trD E D (n : Int).toNat) = dq := by rw [Int.toNat_natCast, trD, HQ.out, Int.toNat_natCast, HDQ.out]
              rw [q1, Int.toNat_natCast]
              have hfar2 : ∀ p, s2 = some p → (((w5.setCell ⟨W.heap.size + 2, 0, none⟩ (.int .i64 pl)).setCell ⟨W.heap.size + 2, 1, none⟩ (.slice s2 n m2)).setCell ⟨W.heap.size + 2, 2, none⟩ (.slice s4 dq.length m4)).heap[p.block]? = w2.heap[p.block]? := fun p hp => by
                obtain ⟨h1, ds, h2⟩ := own_foot O2.out (k := p.block) (by rw [hp]; rfl)
                have h3 := h2.lt
                have := HS1.out
                have := HLT1.out
                have h4 : p.block ≠ W.heap.size + 2 := by omega
                have h5 : p.block ≠ w1.heap.size := by omega
                rw [Below.heap_setCell _ _ _ _ h4, Below.heap_setCell _ _ _ _ h4, Below.heap_setCell _ _ _ _ h4, HE5.out _ h5, B4.out.block _ (by show p.block < w3.heap.size; rw [HS3.out]; exact h3)]
                exact HE3.out _ h5
              have hfar4 : ∀ p, s4 = some p → (((w5.setCell ⟨W.heap.size + 2, 0, none⟩ (.int .i64 pl)).setCell ⟨W.heap.size + 2, 1, none⟩ (.slice s2 n m2)).setCell ⟨W.heap.size + 2, 2, none⟩ (.slice s4 dq.length m4)).heap[p.block]? = w4.heap[p.block]? := fun p hp => by
                obtain ⟨h1, ds, h2⟩ := own_foot O4.out (k := p.block) (by rw [hp]; rfl)
                have h1' : w3.heap.size ≤ p.block := h1
                rw [HS3.out] at h1'
                have := HS2.out
                have := HLT1.out
                have h4 : p.block ≠ W.heap.size + 2 := by omega
                have h5 : p.block ≠ w1.heap.size := by omega
                rw [Below.heap_setCell _ _ _ _ h4, Below.heap_setCell _ _ _ _ h4, Below.heap_setCell _ _ _ _ h4, HE5.out _ h5]
              refine ⟨s2, m2, s4, m4, by rw [HTL.out], holdsI_far hH2 hfar2, holdsB_far hH4 hfar4, hc2, hc4, hn2', hn4⟩
            · have := HLT1.out
              refine cvNew_mk (fun p hp => ?_) (fun p hp => ?_)
              · obtain ⟨h1, _⟩ := own_foot O2.out (k := p.block) (by rw [hp]; rfl)
                rw [HS1.out] at h1; omega
              · obtain ⟨h1, _⟩ := own_foot O4.out (k := p.block) (by rw [hp]; rfl)
                have h1' : w3.heap.size ≤ p.block := h1
                rw [HS3.out] at h1'
                have := HS2.out
                omega
  · go_enter Tryd.func12, Tryd.ntmps12
    go_wp2_with (first | (go_at_call 10; (with_reducible refine k.mono ?_); rintro e w1 ⟨rfl, hb⟩; have B1 := Lib.hid (show Below WA.heap.size WA w1 by rw [HWA.out]; exact hb); have CB1 := Lib.hid (HCB.out.below B1.out); have RB1 := Lib.hid (HRB.out.below B1.out); have x0 := CB1.out.cell 0; have x1 := CB1.out.cell 1; have x2 := CB1.out.cell 2; have b0 := RB1.out.cell 0; have b1 := RB1.out.cell 1; have b2 := RB1.out.cell 2; have f0 := RB1.out.free 0; have f1 := RB1.out.free 1; have f2 := RB1.out.free 2; clear hb))
    (try simp only [Exit.inBlock, Exit.then])
    refine bodyPost_ret (results_coded rfl _ rfl rfl (RB1.out.set3 _ _ _)) rfl ?_
    have ht : trE pl E D.length p = va := by unfold trE; rw [← HVA.out, if_pos h0]
    exact ⟨FIN.out _ _ _ _ (below_call HB.out B1.out), .inl ⟨by rw [ht]; exact h0, by rw [ht]; rfl⟩⟩
end Go.Proofs.YtklchodbnjebnaaDoor
set_option maxRecDepth 100000
namespace Go.Proofs.YtklchodbnjebnaaDoor
open Go.RowKit

theorem ex17a : (encC 1 1 [0] 0 mo0).E = [] ∧ (encC 1 1 [0] 0 mo0).D = [] ∧ plnN [0] = 0 := by decide +kernel
theorem ex17b : (encC 1 1 [1] 0 mo0).E = [1] ∧ (encC 1 1 [1] 0 mo0).D = [128] ∧ plnN [1] = 1 := by decide +kernel
theorem ex17c : (encC 1 1 [-1] 3 mo0).E = [1] ∧ (encC 1 1 [-1] 3 mo0).D = [192] ∧ plnN [-1] = 1 := by decide +kernel
/-- What an example's Encode gives. -/
def Ex9 (W : World) (pl : Int) (E D : List Int) (n1 n2 : Nat) (e : Ending) (w' : World) : Prop :=
  ∃ se me sd md, e = .returned (.tuple #[.agg #[.int .i64 pl, .slice se n1 me, .slice sd n2 md], .int .i64 0]) ∧ CvAt w' (.agg #[.int .i64 pl, .slice se n1 me, .slice sd n2 md]) pl E D ∧ Below W.heap.size W w'
theorem ex_enc9 (W : World) (hT : Cx.Tabs W) (x o : Int) (n n1 n2 : Nat) (pl : Int) (E D : List Int) (hx : (encC 1 1 [x] o mo0).E = E ∧ (encC 1 1 [x] o mo0).D = D ∧ plnN [x] = n) (hp : (n : Int) = pl) (h1 : E.length = n1) (h2 : D.length = n2) (ho : 0 ≤ o ∧ o ≤ 3) (hv : okV x) (hi : i64R x) (h65 : D.length ≤ 65535) :
    Calls Tryd.prog 15 #[.slice (some ⟨W.heap.size, 0, none⟩) 1 1, .int .i64 1, .int .i64 1, .int .i64 o, .agg #[.bool false, .bool false, .bool false, .bool false, .bool false]] (W.alloc (.cells #[.int .i64 x] 3)) (Ex9 W pl E D n1 n2) := by
  subst hp h1 h2
  obtain ⟨h1, h2, h3⟩ := hx
  have hA := below_alloc (Below.refl _ W) (.cells #[.int .i64 x] 3)
  have k := encode_y (some ⟨W.heap.size, 0, none⟩) [x] 1 1 1 o mo0 (W.alloc (.cells #[.int .i64 x] 3)) (by unfold fits; decide) rfl (by simp) ho (holds_new _ _ rfl _ _ rfl) (hT.below hA) (by intro v hv; simp at hv; rw [hv]; exact hi) (by intro v hw; simp at hw; rw [hw]; exact hv)
  rw [h1, h2, h3] at k
  have k2 : Calls Tryd.prog 15 #[.slice (some ⟨W.heap.size, 0, none⟩) 1 1, .int .i64 1, .int .i64 1, .int .i64 o, .agg #[.bool false, .bool false, .bool false, .bool false, .bool false]] (W.alloc (.cells #[.int .i64 x] 3)) (CdG (W.alloc (.cells #[.int .i64 x] 3)) (n : Int) E D) := k
  refine k2.mono fun e w' z => ?_
  obtain ⟨z1, z2⟩ := z
  rcases z2 with ⟨z3, _⟩ | ⟨_, v, rfl, z4, _⟩
  · omega
  · have z5 := z4
    obtain ⟨se, me, sd, md, rfl, _⟩ := z5
    exact ⟨se, me, sd, md, rfl, z4, below_call hA z1⟩
theorem ex_tr (W : World) (se sd : Option Addr) (me md : Nat) (h : CvAt W (.agg #[.int .i64 1, .slice se 1 me, .slice sd 1 md]) 1 [1] [128]) :
    Calls Tryd.prog 12 #[.agg #[.int .i64 1, .slice se 1 me, .slice sd 1 md], .int .i64 0, .agg #[.bool false, .bool false, .bool false, .bool false, .bool false]] W (Ex9 W 1 [] [] 0 0) := by
  have k : Calls Tryd.prog 12 #[.agg #[.int .i64 1, .slice se 1 me, .slice sd 1 md], .int .i64 0, .agg #[.bool false, .bool false, .bool false, .bool false, .bool false]] W (TrG 1 [1] [128] 0 W) := btrunc_c 1 0 [1] [128] _ mo0 W h (by simp)
  refine k.mono fun e w' z => ?_
  obtain ⟨z1, z2⟩ := z
  have ht : trE 1 [1] ([128] : List Int).length 0 = 0 := by decide
  rcases z2 with ⟨z3, _⟩ | ⟨_, v, rfl, z4, _⟩
  · exact absurd ht z3
  · have e1 : ([1] : List Int).take (0 : Int).toNat = [] := rfl
    have e2 : trD [1] [128] (0 : Int).toNat = [] := by decide
    rw [e1, e2] at z4
    have z5 := z4
    obtain ⟨se, me, sd, md, rfl, _⟩ := z5
    exact ⟨se, me, sd, md, rfl, z4, z1⟩
theorem ex_va (W : World) (se sd : Option Addr) (me md : Nat) (h : CvAt W (.agg #[.int .i64 1, .slice se 1 me, .slice sd 1 md]) 1 [1] [128]) :
    Calls Tryd.prog 10 #[.agg #[.int .i64 1, .slice se 1 me, .slice sd 1 md], .agg #[.bool false, .bool false, .bool false, .bool false, .bool false]] W fun e w' => e = .returned (.int .i64 0) ∧ Below W.heap.size W w' := by
  obtain ⟨se', me', sd', md', e1, h1, _⟩ := h
  simp at e1
  obtain ⟨⟨rfl, rfl⟩, rfl, rfl⟩ := e1
  have k : Calls Tryd.prog 10 #[.agg #[.int .i64 1, .slice se 1 me, .slice sd 1 md], .agg #[.bool false, .bool false, .bool false, .bool false, .bool false]] W (VaG 1 [1] 1 W) := bvalid_c 1 [1] se me sd 1 md mo0 W h1 (by simp)
  refine k.mono fun e w' z => ⟨z.1.trans ?_, z.2⟩
  have : vaE 1 [1] 1 = 0 := by decide
  rw [this]
theorem cv_open1 {W : World} {se sd : Option Addr} {me md : Nat} {pl : Int} {x y : Int} (h : CvAt W (.agg #[.int .i64 pl, .slice se 1 me, .slice sd 1 md]) pl [x] [y]) : ∃ b o b' o', se = some ⟨b, o, none⟩ ∧ sd = some ⟨b', o', none⟩ := by
  obtain ⟨se', me', sd', md', e1, h1, h2, _⟩ := h
  simp at e1
  obtain ⟨⟨rfl, rfl⟩, rfl, rfl⟩ := e1
  rcases h1 with h1 | ⟨b, o, rfl, _⟩
  · simp at h1
  rcases h2 with h2 | ⟨b', o', rfl, _⟩
  · simp at h2
  exact ⟨b, o, b', o', rfl, rfl⟩
theorem cv_cells1 {W : World} {b o b' o' : Nat} {me md : Nat} {pl : Int} {x y : Int} (h : CvAt W (.agg #[.int .i64 pl, .slice (some ⟨b, o, none⟩) 1 me, .slice (some ⟨b', o', none⟩) 1 md]) pl [x] [y]) : W.cell? ⟨b, o, none⟩ = some (.int .i64 x) ∧ W.cell? ⟨b', o', none⟩ = some (.int .u8 y) := by
  obtain ⟨se', me', sd', md', e1, h1, h2, _⟩ := h
  simp at e1
  obtain ⟨⟨rfl, rfl⟩, rfl, rfl⟩ := e1
  rcases h1 with h1 | ⟨b1, o1, e, r⟩
  · simp at h1
  rcases h2 with h2 | ⟨b2, o2, e2, r2⟩
  · simp at h2
  simp at e e2
  obtain ⟨rfl, rfl⟩ := e
  obtain ⟨rfl, rfl⟩ := e2
  exact ⟨r 0 (by simp), r2 0 (by simp)⟩
/-- An example's block in memory, kept. -/
structure Kx (W0 W : World) (g : Nat) (pl : Int) (E D : List Int) (n1 n2 : Nat) (se sd : Option Addr) (me md : Nat) : Prop where
  cv : CvAt W (.agg #[.int .i64 pl, .slice se n1 me, .slice sd n2 md]) pl E D
  bx : Blk W g 25 #[.int .i64 pl, .slice se n1 me, .slice sd n2 md]
theorem Kx.call {W0 W W1 : World} {g : Nat} {pl : Int} {E D : List Int} {n1 n2 : Nat} {se sd : Option Addr} {me md : Nat} (h : Kx W0 W g pl E D n1 n2 se sd me md) (hb : Below W.heap.size W W1) : Kx W0 W1 g pl E D n1 n2 se sd me md := ⟨h.cv.call hb, h.bx.below hb⟩
theorem Kx.new {W0 W : World} {pl : Int} {E D : List Int} {n1 n2 : Nat} {se sd : Option Addr} {me md : Nat} (h : CvAt W (.agg #[.int .i64 pl, .slice se n1 me, .slice sd n2 md]) pl E D) : Kx W0 (W.alloc (.cells #[.int .i64 pl, .slice se n1 me, .slice sd n2 md] 25)) W.heap.size pl E D n1 n2 se sd me md := ⟨h.call (below_alloc (Below.refl _ W) _), Blk.new W _ _⟩
theorem Kx.c {W0 W : World} {g : Nat} {pl : Int} {E D : List Int} {n1 n2 : Nat} {se sd : Option Addr} {me md : Nat} (h : Kx W0 W g pl E D n1 n2 se sd me md) : W.cell? ⟨g, 0, none⟩ = some (.int .i64 pl) ∧ W.cell? ⟨g, 1, none⟩ = some (.slice se n1 me) ∧ W.cell? ⟨g, 2, none⟩ = some (.slice sd n2 md) := ⟨h.bx.cell 0, h.bx.cell 1, h.bx.cell 2⟩
theorem awake17_c (W : World) (hT : Cx.Tabs W) : Calls Tryd.prog 9 #[] W fun e w' => e = .returned (.bool true) ∧ Below W.heap.size W w' := by
  have k0 := ex_enc9 W hT 0 0 0 0 0 0 [] [] ex17a rfl rfl rfl (by decide) (by decide) (by decide) (by decide)
  have k1 := fun (W1 : World) (hb : Below W.heap.size W W1) => ex_enc9 W1 (hT.below hb) 1 0 1 1 1 1 [1] [128] ex17b rfl rfl rfl (by decide) (by decide) (by decide) (by decide)
  have k2 := fun (W1 : World) (hb : Below W.heap.size W W1) => ex_enc9 W1 (hT.below hb) (-1) 3 1 1 1 1 [1] [192] ex17c rfl rfl rfl (by decide) (by decide) (by decide) (by decide)
  have K1 := Lib.hid k1
  have K2 := Lib.hid k2
  clear k1 k2 hT
  go_enter Tryd.func9, Tryd.ntmps9
  go_wp2_with (first | (go_at_call 15; first | ((with_reducible refine k0.mono ?_); rintro e w1 ⟨se1, me1, sd1, md1, rfl, hc, hb⟩; have X1 := Lib.hid (Kx.new (W0 := W) hc); have B1 := Lib.hid (below_alloc hb (.cells #[.int .i64 0, .slice se1 0 me1, .slice sd1 0 md1] 25)); have kk1 := K1.out _ B1.out; rw [alloc_size] at kk1; clear hc hb) | ((with_reducible refine kk1.mono ?_); rintro e w2 ⟨se2, me2, sd2, md2, rfl, hc, hb⟩; obtain ⟨q1, q2, q3, q4, rfl, rfl⟩ := cv_open1 hc; have X2 := Lib.hid (Kx.new (W0 := W) hc); have Y1 := Lib.hid ((X1.out.call hb).call (below_alloc (Below.refl _ w2) (.cells #[.int .i64 1, .slice (some ⟨q1, q2, none⟩) 1 me2, .slice (some ⟨q3, q4, none⟩) 1 md2] 25))); have B2 := Lib.hid (below_alloc (below_call B1.out hb) (.cells #[.int .i64 1, .slice (some ⟨q1, q2, none⟩) 1 me2, .slice (some ⟨q3, q4, none⟩) 1 md2] 25)); have kk2 := K2.out _ B2.out; rw [alloc_size] at kk2; clear hc hb) | ((with_reducible refine kk2.mono ?_); rintro e w3 ⟨se3, me3, sd3, md3, rfl, hc, hb⟩; obtain ⟨r1, r2, r3, r4, rfl, rfl⟩ := cv_open1 hc; have X3 := Lib.hid (Kx.new (W0 := W) hc); have Z1 := Lib.hid ((Y1.out.call hb).call (below_alloc (Below.refl _ w3) (.cells #[.int .i64 1, .slice (some ⟨r1, r2, none⟩) 1 me3, .slice (some ⟨r3, r4, none⟩) 1 md3] 25))); have Z2 := Lib.hid ((X2.out.call hb).call (below_alloc (Below.refl _ w3) (.cells #[.int .i64 1, .slice (some ⟨r1, r2, none⟩) 1 me3, .slice (some ⟨r3, r4, none⟩) 1 md3] 25))); have B3 := Lib.hid (below_alloc (below_call B2.out hb) (.cells #[.int .i64 1, .slice (some ⟨r1, r2, none⟩) 1 me3, .slice (some ⟨r3, r4, none⟩) 1 md3] 25)); obtain ⟨a0, a1, a2⟩ := Z1.out.c; obtain ⟨b0, b1, b2⟩ := Z2.out.c; obtain ⟨c0, c1, c2⟩ := X3.out.c; have kt := ex_tr _ _ _ _ _ Z2.out.cv; clear hc hb)) | (go_at_call 12; (with_reducible refine kt.mono ?_); rintro e w4 ⟨se4, me4, sd4, md4, rfl, hc, hb⟩; have X4 := Lib.hid (Kx.new (W0 := W) hc); have U1 := Lib.hid ((Z1.out.call hb).call (below_alloc (Below.refl _ w4) (.cells #[.int .i64 1, .slice se4 0 me4, .slice sd4 0 md4] 25))); have U2 := Lib.hid ((Z2.out.call hb).call (below_alloc (Below.refl _ w4) (.cells #[.int .i64 1, .slice se4 0 me4, .slice sd4 0 md4] 25))); have U3 := Lib.hid ((X3.out.call hb).call (below_alloc (Below.refl _ w4) (.cells #[.int .i64 1, .slice se4 0 me4, .slice sd4 0 md4] 25))); have B4 := Lib.hid (below_alloc (below_call B3.out hb) (.cells #[.int .i64 1, .slice se4 0 me4, .slice sd4 0 md4] 25)); clear a0 a1 a2 b0 b1 b2 c0 c1 c2 hc hb; obtain ⟨a0, a1, a2⟩ := U1.out.c; obtain ⟨b0, b1, b2⟩ := U2.out.c; obtain ⟨c0, c1, c2⟩ := U3.out.c; obtain ⟨d0, d1, d2⟩ := X4.out.c; obtain ⟨p0, p1⟩ := cv_cells1 U2.out.cv; obtain ⟨p2, p3⟩ := cv_cells1 U3.out.cv; have kv := ex_va _ _ _ _ _ U2.out.cv) | (go_at_call 10; (with_reducible refine kv.mono ?_); rintro e w5 ⟨rfl, hb⟩; have B5 := Lib.hid (below_call B4.out hb); clear hb))
  go_ret
  exact ⟨rfl, B5.out⟩
end Go.Proofs.YtklchodbnjebnaaDoor
