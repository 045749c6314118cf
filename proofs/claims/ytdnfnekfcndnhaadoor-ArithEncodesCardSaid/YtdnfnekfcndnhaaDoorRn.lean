/-
  Layer 11, ArithEncodes: the walk where the number of contexts is out of range.
-/
import Derived.Test.YtdnfnekfcndnhaaDoorRm
set_option maxRecDepth 100000
namespace Go.Proofs.YtdnfnekfcndnhaaDoor
open Go.RowKit

set_option maxHeartbeats 8000000 in
theorem walk_n (n : Int) (l : List Cl) (s : Option Addr) (m : Nat) (w : World) (h : HoldsC w s l) (hl : l.length ≤ 300) (hn : ¬ (1 ≤ n ∧ n ≤ 64)) (hfw : Calls Tryd.prog 4 #[.slice s l.length m] w fun e w' => e = .returned (.bool true) ∧ w = w') :
    Calls Tryd.prog 3 #[.int .i64 n, .slice s l.length m] w fun e w' => e = .returned (.bool true) ∧ Below w.heap.size w w' := by
  have H := Lib.hid h
  clear h
  go_enter Tryd.func3, Tryd.ntmps3
  go_wp2_with (first | (go_at_call 4; (with_reducible refine hfw.mono ?_); rintro e wn ⟨rfl, rfl⟩))
  refine (enew_n n _ hn).mono ?_
  rintro e W1 ⟨rfl, hB1⟩
  clear hfw
  go_wp2_with fail
  refine (vnew_n n _ hn).mono ?_
  rintro e wn ⟨rfl, rfl⟩
  have hI := Lib.hid hB1
  clear hB1 hn
  go_wp2_with fail
  go_loopw [37] (fun i wr => ∃ k : Nat, k ≤ l.length ∧ i = .int .i64 (k : Int) ∧ Hid (Below w.heap.size w wr)) (fun i _ => l.length - (intOf i).toNat)
  case atStart => exact ⟨0, Nat.zero_le _, rfl, hI⟩
  case round =>
    obtain ⟨k, hk, rfl, hT⟩ := hrel
    by_cases hlt : k < l.length
    · obtain ⟨bo, off, rfl, c0, c1, c2, sd, md, c3, _⟩ := ((H.out).below hT.out).at hlt
      obtain ⟨q, hq⟩ : ∃ q, q = l[k] := ⟨_, rfl⟩
      rw [← hq] at c0 c1 c2 c3
      clear hq
      obtain ⟨q0, q1, q2, D⟩ := q
      dsimp only at c0 c1 c2 c3
      obtain ⟨dl, hdle⟩ : ∃ dl, dl = D.length := ⟨_, rfl⟩
      rw [← hdle] at c3
      clear hdle
      have B0 : Hid (Below w.heap.size w (wr.alloc (.cells #[.int .i64 q0, .int .i64 q1, .int .i64 q2, .slice sd dl md] 34))) := below_alloc hT.out _
      obtain ⟨g, hg⟩ : ∃ g, g = wr.heap.size := ⟨_, rfl⟩
      have o0 : Blk (wr.alloc (.cells #[.int .i64 q0, .int .i64 q1, .int .i64 q2, .slice sd dl md] 34)) g 34 #[.int .i64 q0, .int .i64 q1, .int .i64 q2, .slice sd dl md] := by rw [hg]; exact Blk.new wr _ _
      have HO := Lib.hid o0
      have HG := Lib.hid hg
      clear o0 hg
      by_cases h3 : q0 = 3
      · subst h3
        go_wp2_with fail
        refine (nereset none _ (.inl rfl)).mono ?_
        rintro e wn ⟨rfl, rfl⟩
        go_wp2_with fail
        refine (vnone_reset _).mono ?_
        rintro e wn ⟨rfl, rfl⟩
        rw [← HG.out]
        clear c0 c1 c2 c3
        have k1 := HO.out.cell 1
        obtain ⟨X, hX⟩ : ∃ X, X = wr.alloc (.cells #[.int .i64 3, .int .i64 q1, .int .i64 q2, .slice sd dl md] 34) := ⟨_, rfl⟩
        rw [← hX] at k1 B0 ⊢
        have k1 : X.cell? ⟨g, 1, none⟩ = some (.int .i64 q1) := k1
        clear hX
        have cs1 : ∀ n, Calls Tryd.prog 15 #[.pointer none] (X.drewN n) fun e w' => e = .returned (.int .i64 0) ∧ w' = X.drewN n := fun n => (nesize none _ (.inl rfl)).mono fun _ _ z => ⟨z.1, z.2.symm⟩
        have cs2 : ∀ n, Calls Tryd.prog 16 #[.pointer none] (X.drewN n) fun e w' => e = .returned (.int .i64 0) ∧ w' = X.drewN n := fun n => (vnone_size _).mono fun _ _ z => ⟨z.1, z.2.symm⟩
        have cp1 : ∀ n, Calls Tryd.prog 17 #[.pointer none, .int .i64 q1] (X.drewN n) fun e w' => e = .returned (.int .i64 0) ∧ w' = X.drewN n := fun n => (neprob none q1 _ (.inl rfl)).mono fun _ _ z => ⟨z.1, z.2.symm⟩
        have cp2 : ∀ n, Calls Tryd.prog 18 #[.pointer none, .int .i64 q1] (X.drewN n) fun e w' => e = .returned (.int .i64 0) ∧ w' = X.drewN n := fun n => (vnone_prob q1 _).mono fun _ _ z => ⟨z.1, z.2.symm⟩
        go_wp2_with fail
        go_quiet (first | (go_at_call 15; with_reducible exact Calls.quiet_of_same (cs1 _)) | (go_at_call 16; with_reducible exact Calls.quiet_of_same (cs2 _)) | (go_at_call 17; with_reducible exact Calls.quiet_of_same (cp1 _)) | (go_at_call 18; with_reducible exact Calls.quiet_of_same (cp2 _)))
        go_wp2_with fail
        go_roundw
        case rel => exact ⟨k + 1, by omega, by go_num, below_call B0.out (drewN_below X _)⟩
        case measure => simp [intOf]; omega
      · have h3b : (q0 == 3) = false := by simpa using h3
        by_cases h2 : q0 = 2
        · subst h2
          clear h3 h3b
          go_wp2_with fail
          refine (neterm none _ (.inl rfl)).mono ?_
          rintro e wn ⟨rfl, rfl⟩
          go_wp2_with fail
          refine (vnone_term _).mono ?_
          rintro e wn ⟨rfl, rfl⟩
          go_wp2_with fail
          refine (same11_t _ [] none none 0 0 0 rfl (.inl rfl) (.inl rfl) (by simp)).mono ?_
          rintro e x3 ⟨rfl, hb3⟩
          have L2 := Lib.hid (below_call B0.out hb3)
          have k1 : x3.cell? ⟨wr.heap.size, 1, none⟩ = some (.int .i64 q1) := by
            have := (HO.out.below hb3).cell 1
            rw [HG.out] at this
            exact this
          clear hb3 c0 c1 c2 c3
          have cs1 : ∀ n, Calls Tryd.prog 15 #[.pointer none] (x3.drewN n) fun e w' => e = .returned (.int .i64 0) ∧ w' = x3.drewN n := fun n => (nesize none _ (.inl rfl)).mono fun _ _ z => ⟨z.1, z.2.symm⟩
          have cs2 : ∀ n, Calls Tryd.prog 16 #[.pointer none] (x3.drewN n) fun e w' => e = .returned (.int .i64 0) ∧ w' = x3.drewN n := fun n => (vnone_size _).mono fun _ _ z => ⟨z.1, z.2.symm⟩
          have cp1 : ∀ n, Calls Tryd.prog 17 #[.pointer none, .int .i64 q1] (x3.drewN n) fun e w' => e = .returned (.int .i64 0) ∧ w' = x3.drewN n := fun n => (neprob none q1 _ (.inl rfl)).mono fun _ _ z => ⟨z.1, z.2.symm⟩
          have cp2 : ∀ n, Calls Tryd.prog 18 #[.pointer none, .int .i64 q1] (x3.drewN n) fun e w' => e = .returned (.int .i64 0) ∧ w' = x3.drewN n := fun n => (vnone_prob q1 _).mono fun _ _ z => ⟨z.1, z.2.symm⟩
          go_wp2_with fail
          go_quiet (first | (go_at_call 15; with_reducible exact Calls.quiet_of_same (cs1 _)) | (go_at_call 16; with_reducible exact Calls.quiet_of_same (cs2 _)) | (go_at_call 17; with_reducible exact Calls.quiet_of_same (cp1 _)) | (go_at_call 18; with_reducible exact Calls.quiet_of_same (cp2 _)))
          go_wp2_with fail
          go_roundw
          case rel => exact ⟨k + 1, by omega, by go_num, below_call L2.out (drewN_below x3 _)⟩
          case measure => simp [intOf]; omega
        · have h2b : (q0 == 2) = false := by simpa using h2
          have k1 : (wr.alloc (.cells #[.int .i64 q0, .int .i64 q1, .int .i64 q2, .slice sd dl md] 34)).cell? ⟨g, 1, none⟩ = some (.int .i64 q1) := HO.out.cell 1
          have k2 : (wr.alloc (.cells #[.int .i64 q0, .int .i64 q1, .int .i64 q2, .slice sd dl md] 34)).cell? ⟨g, 2, none⟩ = some (.int .i64 q2) := HO.out.cell 2
          clear h3 h2
          go_upto_region 11 with fail
          rw [← HG.out]
          clear c0 c1 c2 c3
          obtain ⟨X, hX⟩ : ∃ X, X = wr.alloc (.cells #[.int .i64 q0, .int .i64 q1, .int .i64 q2, .slice sd dl md] 34) := ⟨_, rfl⟩
          rw [← hX] at k1 k2 B0 ⊢
          clear hX
          have ce1 : ∀ n, Calls Tryd.prog 13 #[.pointer none, .int .i64 q1, .int .i64 q2] (X.drewN n) fun e w' => e = .returned (.int .i64 6) ∧ w' = X.drewN n := fun n => (nenc none q1 q2 _ (.inl rfl)).mono fun _ _ z => ⟨z.1, z.2.symm⟩
          have ce2 : ∀ n, Calls Tryd.prog 14 #[.pointer none, .int .i64 q1, .int .i64 q2] (X.drewN n) fun e w' => e = .returned (.int .i64 6) ∧ w' = X.drewN n := fun n => (vnone_enc q1 q2 _).mono fun _ _ z => ⟨z.1, z.2.symm⟩
          go_quiet (first | (go_at_call 13; with_reducible exact Calls.quiet_of_same (ce1 _)) | (go_at_call 14; with_reducible exact Calls.quiet_of_same (ce2 _)))
          have k3 : (X.drewN nq).cell? ⟨g, 1, none⟩ = some (.int .i64 q1) := by rw [(drewN_below X nq).cell (p := ⟨g, 1, none⟩) (cell_lt k1)]; exact k1
          have B1 := Lib.hid (below_call B0.out (drewN_below X nq))
          obtain ⟨Y, hY⟩ : ∃ Y, Y = X.drewN nq := ⟨_, rfl⟩
          rw [← hY] at k3 B1 ⊢
          clear hY k1 k2 ce1 ce2
          have cs1 : ∀ n, Calls Tryd.prog 15 #[.pointer none] (Y.drewN n) fun e w' => e = .returned (.int .i64 0) ∧ w' = Y.drewN n := fun n => (nesize none _ (.inl rfl)).mono fun _ _ z => ⟨z.1, z.2.symm⟩
          have cs2 : ∀ n, Calls Tryd.prog 16 #[.pointer none] (Y.drewN n) fun e w' => e = .returned (.int .i64 0) ∧ w' = Y.drewN n := fun n => (vnone_size _).mono fun _ _ z => ⟨z.1, z.2.symm⟩
          have cp1 : ∀ n, Calls Tryd.prog 17 #[.pointer none, .int .i64 q1] (Y.drewN n) fun e w' => e = .returned (.int .i64 0) ∧ w' = Y.drewN n := fun n => (neprob none q1 _ (.inl rfl)).mono fun _ _ z => ⟨z.1, z.2.symm⟩
          have cp2 : ∀ n, Calls Tryd.prog 18 #[.pointer none, .int .i64 q1] (Y.drewN n) fun e w' => e = .returned (.int .i64 0) ∧ w' = Y.drewN n := fun n => (vnone_prob q1 _).mono fun _ _ z => ⟨z.1, z.2.symm⟩
          go_wp2_with fail
          go_quiet (first | (go_at_call 15; with_reducible exact Calls.quiet_of_same (cs1 _)) | (go_at_call 16; with_reducible exact Calls.quiet_of_same (cs2 _)) | (go_at_call 17; with_reducible exact Calls.quiet_of_same (cp1 _)) | (go_at_call 18; with_reducible exact Calls.quiet_of_same (cp2 _)))
          go_wp2_with fail
          go_roundw
          case rel => exact ⟨k + 1, by omega, by go_num, below_call B1.out (drewN_below Y _)⟩
          case measure => simp [intOf]; omega
    · obtain rfl : k = l.length := by omega
      go_wp2_with fail
      refine (neterm none _ (.inl rfl)).mono ?_
      rintro e wn ⟨rfl, rfl⟩
      go_wp2_with fail
      refine (vnone_term _).mono ?_
      rintro e wn ⟨rfl, rfl⟩
      go_wp2_with fail
      refine (same11_t _ [] none none 0 0 0 rfl (.inl rfl) (.inl rfl) (by simp)).mono ?_
      rintro e x3 ⟨rfl, hb3⟩
      have HB3 := Lib.hid (below_call hT.out hb3)
      clear hb3
      go_wp2_with fail
      refine (awake11_c _).mono ?_
      rintro e w5 ⟨rfl, hb5⟩
      go_wp2_with fail
      go_ret
      exact ⟨rfl, below_call HB3.out hb5⟩
end Go.Proofs.YtdnfnekfcndnhaaDoor
