/-
  For all headers the statement ParamsHeaders returns true.
  Conditions: none beyond those of the given statement.
-/
import Derived.Test.YtgghpdnplglaoaaHz2
import Derived.Test.YtgghpdnplglaoaaHx3
import Derived.Test.YtgghpdnplglaoaaHc
import Derived.Test.YtgghpdnplglaoaaHg
import Derived.Test.YtgghpdnplglaoaaHo
set_option maxRecDepth 100000
namespace Go.Proofs.Ytgghpdnplglaoaa.paramsHeaders
open Go.ChangeShapes Go.WideShapes Go.ChangeAt Go.RowKit Go.Joins Go.Deep

/-- What the walk keeps in memory. -/
structure LaS (W : World) (hd : Hp.Hd) (s : Option Addr) (m : Nat) (w : World) : Prop where
  bl : Below W.heap.size W w
  bh : Blk w W.heap.size 26 (hvA hd s m)
  hC : HoldsC w s hd.cs
theorem LaS.keep {W w w' : World} {hd : Hp.Hd} {s : Option Addr} {m : Nat} (a : LaS W hd s m w) (hb : Below w.heap.size w w') : LaS W hd s m w' :=
  ⟨a.bl.trans (hb.mono a.bl.size), a.bh.below hb, a.hC.below hb (Nat.le_refl _)⟩
set_option maxHeartbeats 4000000 in
theorem walk (hd : Hp.Hd) (s : Option Addr) (m : Nat) (W : World) (hC : HoldsC W s hd.cs) : Calls Try.prog 3 #[.agg (hvA hd s m)] W fun e w' => e = .returned (.bool true) ∧ Below W.heap.size W w' := by
  obtain ⟨WB, hWB⟩ : ∃ ww, ww = (W.alloc (.cells (hvA hd s m) 26)) := ⟨_, rfl⟩
  have hb0 : Below W.heap.size W WB := by rw [hWB]; exact (below_alloc (Below.refl _ W) (Nat.le_refl _) _)
  have hH : Blk WB W.heap.size 26 (hvA hd s m) := by
    rw [hWB]
    exact Blk.new W 26 (hvA hd s m)
  have hC1 : HoldsC WB s hd.cs := hC.below hb0 (Nat.le_refl _)
  have hS : LaS W hd s m WB.drew := ⟨hb0.drew, hH.drew, hC.below hb0.drew (Nat.le_refl _)⟩
  have HS := Lib.hid (show (fun w' => w'.cell? ⟨W.heap.size, 6, none⟩ = some (.slice s hd.cs.length m) ∧ LaS W hd s m w') WB.drew from ⟨hS.bh.get 6 rfl, hS⟩)
  have HW2 := hWB
  clear hb0 hH hC1 hS hWB
  have hself : (Hp.headM hd == Hp.headM hd) = true := by simp
  by_cases hl : 10 < hd.cs.length
  · have hl1 : decide ((10 : Int) < hd.cs.length) = true := by simpa using (by omega : (10 : Int) < hd.cs.length)
    have hl2 : (10 : Int) < hd.cs.length := by omega
    unfold hvA at HW2 ⊢
    go_enter Try.func3, Try.ntmps3
    go_upto_region 1 with fail
    rw [← HW2]
    clear HW2
    refine wp_region_held_drew (S := (fun w' => w'.cell? ⟨W.heap.size, 6, none⟩ = some (.slice s hd.cs.length m) ∧ LaS W hd s m w')) (by kernel_rfl) (by (try dsimp only); exact HS.out) (fun hHeld => ?_)
    refine takeD (i := 0) (oi := _) (some 3) (v := ?_) rfl rfl (by kernel_rfl) (by kernel_rfl) (by kernel_rfl) (fun _ _ _ h => h) (Or.inl ⟨by rfl, ?_⟩) (by assumption) ?_
    rotate_left
    · (intro w hSw; (try dsimp only at hSw); go_simp; try with_reducible rfl)
    simp only [Act.put, List.setIfInBounds_toArray, List.set]
    refine takeD (i := 1) (oi := _) (some 4) (v := ?_) rfl rfl (by kernel_rfl) (by kernel_rfl) (by kernel_rfl) (fun _ _ _ h => h) (Or.inl ⟨by rfl, ?_⟩) (by assumption) ?_
    rotate_left
    · (intro w hSw; (try dsimp only at hSw); go_simp; try with_reducible rfl)
    simp only [Act.put, List.setIfInBounds_toArray, List.set]
    refine takeD (i := 2) (oi := _) (some 5) (v := ?_) rfl rfl (by kernel_rfl) (by kernel_rfl) (by kernel_rfl) (fun _ _ _ h => h) (Or.inl ⟨by rfl, ?_⟩) (by assumption) ?_
    rotate_left
    · (intro w hSw; (try dsimp only at hSw); go_simp; try with_reducible rfl)
    simp only [Act.put, List.setIfInBounds_toArray, List.set]
    refine takeD (i := 3) (oi := _) (some 6) (v := ?_) rfl rfl (by kernel_rfl) (by kernel_rfl) (by kernel_rfl) (fun _ _ _ h => h) (Or.inl ⟨by rfl, ?_⟩) (by assumption) ?_
    rotate_left
    · (intro w hSw; (try dsimp only at hSw); go_simp; try with_reducible rfl)
    simp only [Act.put, List.setIfInBounds_toArray, List.set]
    refine takeD (i := 4) (oi := _) (some 7) (v := ?_) rfl rfl (by kernel_rfl) (by kernel_rfl) (by kernel_rfl) (fun _ _ _ h => h) (Or.inl ⟨by rfl, ?_⟩) (by assumption) ?_
    rotate_left
    · (intro w hSw; (try dsimp only at hSw); go_simp; try with_reducible rfl)
    simp only [Act.put, List.setIfInBounds_toArray, List.set]
    refine wpAnyH_ready (rs := [5]) (by kernel_rfl) (by simp) ?_
    refine AllReadyH.cons (o := _) rfl (fun K hK => ?_) AllReadyH.nil
    (go_simp; go_at_call 10; (with_reducible refine (awake23_c _).mono ?_); rintro e wn ⟨rfl, hbn⟩)
    refine hK.out _ _ (by (try dsimp only); first | exact hHeld | exact ⟨(hHeld.2.keep hbn).bh.get 6 rfl, hHeld.2.keep hbn⟩) (fun hHeld => ?_)
    clear hK K
    try simp only [Act.put, List.setIfInBounds_toArray, List.set]
    refine takeD (i := 6) (oi := _) (some 9) (v := ?_) rfl rfl (by kernel_rfl) (by kernel_rfl) (by kernel_rfl) (fun _ _ _ h => h) (Or.inl ⟨by rfl, ?_⟩) (by assumption) ?_
    rotate_left
    · (intro w hSw; (try dsimp only at hSw); go_simp; try with_reducible rfl)
    simp only [Act.put, List.setIfInBounds_toArray, List.set]
    refine takeD (i := 7) (oi := _) (some 10) (v := ?_) rfl rfl (by kernel_rfl) (by kernel_rfl) (by kernel_rfl) (fun _ _ _ h => h) (Or.inl ⟨by rfl, ?_⟩) (by assumption) ?_
    rotate_left
    · (intro w hSw; (try dsimp only at hSw); go_simp; try with_reducible rfl)
    simp only [Act.put, List.setIfInBounds_toArray, List.set]
    refine takeD (i := 8) (oi := _) (some 11) (v := undef) rfl rfl (by kernel_rfl) (by kernel_rfl) (by kernel_rfl) (fun _ _ _ h => h) (Or.inr ⟨by rfl, rfl⟩) (by assumption) ?_
    simp only [Act.put, List.setIfInBounds_toArray, List.set]
    refine takeD (i := 9) (oi := _) (some 12) (v := undef) rfl rfl (by kernel_rfl) (by kernel_rfl) (by kernel_rfl) (fun _ _ _ h => h) (Or.inr ⟨by rfl, rfl⟩) (by assumption) ?_
    simp only [Act.put, List.setIfInBounds_toArray, List.set]
    refine takeD (i := 10) (oi := _) (some 13) (v := undef) rfl rfl (by kernel_rfl) (by kernel_rfl) (by kernel_rfl) (fun _ _ _ h => h) (Or.inr ⟨by rfl, rfl⟩) (by assumption) ?_
    simp only [Act.put, List.setIfInBounds_toArray, List.set]
    refine takeD (i := 11) (oi := _) (some 14) (v := undef) rfl rfl (by kernel_rfl) (by kernel_rfl) (by kernel_rfl) (fun _ _ _ h => h) (Or.inr ⟨by rfl, rfl⟩) (by assumption) ?_
    simp only [Act.put, List.setIfInBounds_toArray, List.set]
    refine takeD (i := 12) (oi := _) (some 15) (v := undef) rfl rfl (by kernel_rfl) (by kernel_rfl) (by kernel_rfl) (fun _ _ _ h => h) (Or.inr ⟨by rfl, rfl⟩) (by assumption) ?_
    simp only [Act.put, List.setIfInBounds_toArray, List.set]
    refine takeD (i := 13) (oi := _) (some 16) (v := undef) rfl rfl (by kernel_rfl) (by kernel_rfl) (by kernel_rfl) (fun _ _ _ h => h) (Or.inr ⟨by rfl, rfl⟩) (by assumption) ?_
    simp only [Act.put, List.setIfInBounds_toArray, List.set]
    refine takeD (i := 14) (oi := _) (some 17) (v := undef) rfl rfl (by kernel_rfl) (by kernel_rfl) (by kernel_rfl) (fun _ _ _ h => h) (Or.inr ⟨by rfl, rfl⟩) (by assumption) ?_
    simp only [Act.put, List.setIfInBounds_toArray, List.set]
    refine takeD (i := 15) (oi := _) (some 18) (v := undef) rfl rfl (by kernel_rfl) (by kernel_rfl) (by kernel_rfl) (fun _ _ _ h => h) (Or.inr ⟨by rfl, rfl⟩) (by assumption) ?_
    simp only [Act.put, List.setIfInBounds_toArray, List.set]
    refine takeD (i := 16) (oi := _) (some 19) (v := ?_) rfl rfl (by kernel_rfl) (by kernel_rfl) (by kernel_rfl) (fun _ _ _ h => h) (Or.inl ⟨by rfl, ?_⟩) (by assumption) ?_
    rotate_left
    · (intro w hSw; (try dsimp only at hSw); go_simp; try with_reducible rfl)
    simp only [Act.put, List.setIfInBounds_toArray, List.set]
    refine takeD (i := 17) (oi := _) (some 2) (v := ?_) rfl rfl (by kernel_rfl) (by kernel_rfl) (by kernel_rfl) (fun _ _ _ h => h) (Or.inl ⟨by rfl, ?_⟩) (by assumption) ?_
    rotate_left
    · (intro w hSw; (try dsimp only at hSw); go_simp; try with_reducible rfl)
    simp only [Act.put, List.setIfInBounds_toArray, List.set]
    refine wpAnyH_done (by kernel_rfl) ?_ _

    have HB := Lib.hid hHeld.2.bl
    clear hHeld HS
    go_wp2_with fail
    go_ret
    exact ⟨rfl, HB.out⟩
  · have hl1 : decide ((10 : Int) < hd.cs.length) = false := by simpa using (by omega : ¬ (10 : Int) < hd.cs.length)
    have hl2 : ¬ (10 : Int) < hd.cs.length := by omega
    have hl : hd.cs.length ≤ 4398046511104 := by omega
    have HW3 : WB = W.alloc (.cells #[.int .i64 hd.a, .int .i64 hd.b, .int .i64 hd.c, .int .i64 hd.d, .int .i64 hd.tw, .int .i64 hd.th, .slice s hd.cs.length m] 26) := HW2
    clear HW2
    unfold hvA
    go_enter Try.func3, Try.ntmps3
    go_upto_region 1 with fail
    rw [← HW3]
    clear HW3
    refine wp_region_held_drew (S := (fun w' => w'.cell? ⟨W.heap.size, 6, none⟩ = some (.slice s hd.cs.length m) ∧ LaS W hd s m w')) (by kernel_rfl) (by (try dsimp only); exact HS.out) (fun hHeld => ?_)
    refine takeD (i := 0) (oi := _) (some 3) (v := ?_) rfl rfl (by kernel_rfl) (by kernel_rfl) (by kernel_rfl) (fun _ _ _ h => h) (Or.inl ⟨by rfl, ?_⟩) (by assumption) ?_
    rotate_left
    · (intro w hSw; (try dsimp only at hSw); go_simp; try with_reducible rfl)
    simp only [Act.put, List.setIfInBounds_toArray, List.set]
    refine takeD (i := 1) (oi := _) (some 4) (v := ?_) rfl rfl (by kernel_rfl) (by kernel_rfl) (by kernel_rfl) (fun _ _ _ h => h) (Or.inl ⟨by rfl, ?_⟩) (by assumption) ?_
    rotate_left
    · (intro w hSw; (try dsimp only at hSw); go_simp; try with_reducible rfl)
    simp only [Act.put, List.setIfInBounds_toArray, List.set]
    refine takeD (i := 2) (oi := _) (some 5) (v := ?_) rfl rfl (by kernel_rfl) (by kernel_rfl) (by kernel_rfl) (fun _ _ _ h => h) (Or.inl ⟨by rfl, ?_⟩) (by assumption) ?_
    rotate_left
    · (intro w hSw; (try dsimp only at hSw); go_simp; try with_reducible rfl)
    simp only [Act.put, List.setIfInBounds_toArray, List.set]
    refine takeD (i := 3) (oi := _) (some 6) (v := ?_) rfl rfl (by kernel_rfl) (by kernel_rfl) (by kernel_rfl) (fun _ _ _ h => h) (Or.inl ⟨by rfl, ?_⟩) (by assumption) ?_
    rotate_left
    · (intro w hSw; (try dsimp only at hSw); go_simp; try with_reducible rfl)
    simp only [Act.put, List.setIfInBounds_toArray, List.set]
    refine takeD (i := 4) (oi := _) (some 7) (v := ?_) rfl rfl (by kernel_rfl) (by kernel_rfl) (by kernel_rfl) (fun _ _ _ h => h) (Or.inl ⟨by rfl, ?_⟩) (by assumption) ?_
    rotate_left
    · (intro w hSw; (try dsimp only at hSw); go_simp; try with_reducible rfl)
    simp only [Act.put, List.setIfInBounds_toArray, List.set]
    refine takeD (i := 5) (oi := _) (some 8) (v := undef) rfl rfl (by kernel_rfl) (by kernel_rfl) (by kernel_rfl) (fun _ _ _ h => h) (Or.inr ⟨by rfl, rfl⟩) (by assumption) ?_
    simp only [Act.put, List.setIfInBounds_toArray, List.set]
    refine takeD (i := 6) (oi := _) (some 9) (v := ?_) rfl rfl (by kernel_rfl) (by kernel_rfl) (by kernel_rfl) (fun _ _ _ h => h) (Or.inl ⟨by rfl, ?_⟩) (by assumption) ?_
    rotate_left
    · (intro w hSw; (try dsimp only at hSw); go_simp; try with_reducible rfl)
    simp only [Act.put, List.setIfInBounds_toArray, List.set]
    refine takeD (i := 7) (oi := _) (some 10) (v := ?_) rfl rfl (by kernel_rfl) (by kernel_rfl) (by kernel_rfl) (fun _ _ _ h => h) (Or.inl ⟨by rfl, ?_⟩) (by assumption) ?_
    rotate_left
    · (intro w hSw; (try dsimp only at hSw); go_simp; try with_reducible rfl)
    simp only [Act.put, List.setIfInBounds_toArray, List.set]
    refine takeD (i := 8) (oi := _) (some 11) (v := .agg (hvA hd s m)) rfl rfl (by kernel_rfl) (by kernel_rfl) (by kernel_rfl) (fun _ _ _ h => h) (yieldsIf_load_mid (by rfl) 26 (.tmp 1) rfl W.heap.size 0 rfl (hvA hd s m).toList _ (fun w hw => hw.2.bh.range) Try.underlying26 rfl info7) (by assumption) ?_
    simp only [Act.put, List.setIfInBounds_toArray, List.set]
    refine takeD (i := 10) (oi := _) (some 13) (v := .agg (hvA hd s m)) rfl rfl (by kernel_rfl) (by kernel_rfl) (by kernel_rfl) (fun _ _ _ h => h) (yieldsIf_load_mid (by rfl) 26 (.tmp 1) rfl W.heap.size 0 rfl (hvA hd s m).toList _ (fun w hw => hw.2.bh.range) Try.underlying26 rfl info7) (by assumption) ?_
    simp only [Act.put, List.setIfInBounds_toArray, List.set]
    refine wpAnyH_ready (rs := [9]) (by kernel_rfl) (by simp) ?_
    refine AllReadyH.cons (o := _) rfl (fun K hK => ?_) AllReadyH.nil
    (go_simp; go_at_call 11; (with_reducible refine (header_c hd s m _ hl hHeld.2.hC).mono ?_); rintro e wn ⟨rfl, hbn⟩)
    refine hK.out _ _ (by (try dsimp only); first | exact hHeld | exact ⟨(hHeld.2.keep hbn).bh.get 6 rfl, hHeld.2.keep hbn⟩) (fun hHeld => ?_)
    clear hK K
    try simp only [Act.put, List.setIfInBounds_toArray, List.set]
    refine wpAnyH_ready (rs := [11]) (by kernel_rfl) (by simp) ?_
    refine AllReadyH.cons (o := _) rfl (fun K hK => ?_) AllReadyH.nil
    (go_simp; go_at_call 12; (with_reducible refine (rheader_c hd s m _ hl hHeld.2.hC).mono ?_); rintro e wn ⟨rfl, hbn⟩)
    refine hK.out _ _ (by (try dsimp only); first | exact hHeld | exact ⟨(hHeld.2.keep hbn).bh.get 6 rfl, hHeld.2.keep hbn⟩) (fun hHeld => ?_)
    clear hK K
    try simp only [Act.put, List.setIfInBounds_toArray, List.set]
    refine takeD (i := 12) (oi := _) (some 15) (v := ?_) rfl rfl (by kernel_rfl) (by kernel_rfl) (by kernel_rfl) (fun _ _ _ h => h) (Or.inl ⟨by rfl, ?_⟩) (by assumption) ?_
    rotate_left
    · (intro w hSw; (try dsimp only at hSw); go_simp; try with_reducible rfl)
    simp only [Act.put, List.setIfInBounds_toArray, List.set]
    refine takeD (i := 13) (oi := _) (some 16) (v := ?_) rfl rfl (by kernel_rfl) (by kernel_rfl) (by kernel_rfl) (fun _ _ _ h => h) (Or.inl ⟨by rfl, ?_⟩) (by assumption) ?_
    rotate_left
    · (intro w hSw; (try dsimp only at hSw); go_simp; try with_reducible rfl)
    simp only [Act.put, List.setIfInBounds_toArray, List.set]
    refine wpAnyH_ready (rs := [14]) (by kernel_rfl) (by simp) ?_
    refine AllReadyH.cons (o := _) rfl (fun K hK => ?_) AllReadyH.nil
    (go_simp; go_at_call 10; (with_reducible refine (awake23_c _).mono ?_); rintro e wn ⟨rfl, hbn⟩)
    refine hK.out _ _ (by (try dsimp only); first | exact hHeld | exact ⟨(hHeld.2.keep hbn).bh.get 6 rfl, hHeld.2.keep hbn⟩) (fun hHeld => ?_)
    clear hK K
    try simp only [Act.put, List.setIfInBounds_toArray, List.set]
    refine takeD (i := 15) (oi := _) (some 18) (v := ?_) rfl rfl (by kernel_rfl) (by kernel_rfl) (by kernel_rfl) (fun _ _ _ h => h) (Or.inl ⟨by rfl, ?_⟩) (by assumption) ?_
    rotate_left
    · (intro w hSw; (try dsimp only at hSw); go_simp; try with_reducible rfl)
    simp only [Act.put, List.setIfInBounds_toArray, List.set]
    refine takeD (i := 16) (oi := _) (some 19) (v := ?_) rfl rfl (by kernel_rfl) (by kernel_rfl) (by kernel_rfl) (fun _ _ _ h => h) (Or.inl ⟨by rfl, ?_⟩) (by assumption) ?_
    rotate_left
    · (intro w hSw; (try dsimp only at hSw); go_simp; try with_reducible rfl)
    simp only [Act.put, List.setIfInBounds_toArray, List.set]
    refine takeD (i := 17) (oi := _) (some 2) (v := ?_) rfl rfl (by kernel_rfl) (by kernel_rfl) (by kernel_rfl) (fun _ _ _ h => h) (Or.inl ⟨by rfl, ?_⟩) (by assumption) ?_
    rotate_left
    · (intro w hSw; (try dsimp only at hSw); go_simp; try with_reducible rfl)
    simp only [Act.put, List.setIfInBounds_toArray, List.set]
    refine wpAnyH_done (by kernel_rfl) ?_ _

    have HB := Lib.hid hHeld.2.bl
    clear hHeld HS
    go_wp2_with fail
    go_ret
    exact ⟨rfl, HB.out⟩

set_option maxRecDepth 100000 in
theorem lifted (os : Os) (started : os.Started) (H : Type) (enc : TypeId × Value → H) :
    ReturnsInHanded {} Try.checked os 3 .any (Rows.paramsHeadersSpec.pre6 enc Try.prog Try.f3 Rows.paramsHeadersRow.domain false) (Rows.paramsHeadersSpec.post enc Try.prog Try.f3 false true false false) := by
  refine returnsInHanded_of_change (C := Try.checked) own started (by kernel_rfl) Try.func3
    (ChangeSpec.witness6 (enc := enc) (C := Try.checked) false ⟨#[], #[.agg #[.int .i64 0, .int .i64 0, .int .i64 0, .int .i64 0, .int .i64 0, .int .i64 0, .slice none 0 0]], []⟩ 8 (by kernel_rfl) (by kernel_rfl) (by kernel_rfl) (by kernel_rfl)) ?_
  intro W base args ds gs before hval0 hW _ _
  have hval : ∀ (j : Nat) t v, Try.f3.params[j]? = some t → args[j]? = some v → Value.okWide Try.prog W .any base t v := hval0
  have hW' := hW
  obtain ⟨p, q, hA0, hV, rfl, _, _⟩ := hW
  have hA : DataW.TrodAll enc Try.prog W 0 (fun _ => true) true Try.f3.params.toList args.toList ds p := hA0
  rw [Try.params3] at hA hval
  obtain ⟨v0, vs0, d0, ds0, p0, q0, hargs, rfl, rfl, h0, r0⟩ := trodAll_cons hA
  obtain ⟨rfl, rfl, rfl⟩ := trodAll_nil r0
  obtain rfl : args = #[v0] := by cases args; simp_all
  obtain ⟨rfl, rfl⟩ := trodVars_none hV
  clear hA0 hval0
  simp only [List.append_nil] at hW'
  have l0 : ∀ x ∈ p0, x.block < W.heap.size := fun x hx => hW'.lt x (by simp [hx])
  obtain ⟨hd0, s0, m0, rfl, hC0⟩ := open_header (hval 0 26 v0 rfl rfl) h0
  refine (walk hd0 s0 m0 W hC0).mono fun e W' ⟨he, hb⟩ => ?_
  subst he
  exact ⟨_, rfl, post_low (pa := p0 ++ ([])) (pv := []) hW' (fun _ _ _ => (trodAll_cons_mk (shut_bool Try.underlying4 _) trodAll_mk0)) (fun sp hsp => (trodAll_cons_mk (trod_low laidOut (by kernel_rfl) (of_decide_eq_true (by kernel_rfl)) h0 hb l0 (fun x hx => hsp x (by simp [hx]))) trodAll_mk0)) (fun _ _ => rfl) (by simp) hb (ok_one (by kernel_rfl) rfl (okWide_bool_mk Try.underlying4 _))⟩

theorem over : Rows.paramsHeadersRow.holds Try.pinned (OpenSpec.ofChange Rows.paramsHeadersSpec) :=
  OpenClaim.holds_of_wide 3 Try.f3 rfl rfl rfl rfl rfl rfl rfl ⟨rfl, rfl, rfl, rfl, rfl⟩ rfl rfl rfl rfl rfl (by kernel_rfl) Try.func3 (by kernel_rfl)
    (of_decide_eq_true (by kernel_rfl)) (by unfold Func.isWrapper; first | (rw [if_pos (by decide +kernel)]; kernel_rfl) | (rw [if_neg (by decide +kernel)]; exact ⟨rfl, rfl⟩))
    (fun os started H enc _ => lifted os started H enc)

theorem proved : Rows.ParamsHeadersSaid :=
  over
#print axioms proved
end Go.Proofs.Ytgghpdnplglaoaa.paramsHeaders
