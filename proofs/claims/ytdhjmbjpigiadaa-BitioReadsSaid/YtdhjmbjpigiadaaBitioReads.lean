/-
  For all bytes and all lists of calls the statement BitioReads returns true; the arguments read afterwards as before.
  Conditions: none beyond those of the given statement.
-/
import Derived.Test.YtdhjmbjpigiadaaSh
import Derived.Laws.AppendOwnNone
set_option maxRecDepth 100000
namespace Go.Proofs.Ytdhjmbjpigiadaa.bitioReads
open Go.ChangeShapes Go.WideShapes Go.ChangeAt Go.RowKit Go.Joins Go.Deep

theorem Sp.fl {w : World} {B b : Nat} {bs : List Int} {p q : Nat} (h : Sp w B b bs p q) : ∀ k, Fp w b k → k < w.heap.size := fun k hk => (h.foot k hk).2
theorem Sp.kp {w w1 : World} {B a b : Nat} {bs : List Int} {p q : Nat} (h : Sp w B b bs p q) (hd : Dj w a b) (hk : Kp a w w1) : Sp w1 B b bs p q ∧ Dj w1 a b := ⟨h.keep (hd.kp hk (Sp.fl h)).2, (hd.kp hk (Sp.fl h)).1⟩
theorem Sp.notop {w : World} {B b g : Nat} {bs : List Int} {p q : Nat} {cs : Array Value} (h : Sp w B b bs p q) (hg : Blk w g 30 cs) : ¬ Fp w b g := by
  obtain ⟨sv, h⟩ := h
  rintro (rfl | ⟨v, hv, hk⟩)
  · exact Blk.ne (t := 30) hg h.blk (by decide) rfl
  · rw [show w.cell? ⟨b, 1, none⟩ = some sv from h.blk.cell 1] at hv
    obtain rfl := Option.some.inj hv
    exact own_blk_ne h.own hg (by decide) hk
theorem snew_none (w : World) :
    Calls Try.prog 30 #[.slice none 0 0] w fun e w' => ∃ a, e = .returned (.pointer (some ⟨a, 0, none⟩)) ∧ Sp w' w.heap.size a [] 0 0 ∧ Below w.heap.size w w' := by
  obtain ⟨i0, hi, hz0, hz1, hz2⟩ := info_parts info8
  have HA := Lib.hid ((Below.refl w.heap.size w).alloc (Nat.le_refl _) (.cells #[] 5))
  have HO := Lib.hid (World.ownsRow_made w #[] 0 (Nat.le_refl _) (by decide : (0:Nat) ≤ maxLen) (by simp) : (w.alloc (.cells #[] 5)).ownsRow w.heap.size 5 1 (.slice (some ⟨w.heap.size, 0, none⟩) 0 0) 0 [])
  go_enter Try.func30, Try.ntmps30
  go_wp2_with (first | (at_builtin; refine wpList_append_own_none rfl _ _ 36 rfl w.heap.size 5 i0 1 Try.underlying36 hi _ 0 [] rfl HO.out rfl ?_))
  go_ret
  exact ⟨_, rfl, ⟨.slice (some ⟨w.heap.size, 0, none⟩) 0 0, by simp, by have h := Blk.new (w.alloc (.cells #[] 5)) 95 #[.bool true, .slice (some ⟨w.heap.size, 0, none⟩) 0 0, .int .i64 0, .int .i64 0]; simpa using h, own_below HO.out ((Below.refl _ _).alloc (Nat.le_refl _) _)⟩, HA.out.alloc HA.out.size _⟩
theorem snew_c (w : World) (bs : List Int) (s : Option Addr) (m : Nat) (hH : HoldsB w s bs) (hs : s = none → bs = [] ∧ m = 0) (hl : bs.length ≤ 1000000000) :
    Calls Try.prog 30 #[.slice s bs.length m] w fun e w' => ∃ a, e = .returned (.pointer (some ⟨a, 0, none⟩)) ∧ Sp w' w.heap.size a bs 0 0 ∧ Below w.heap.size w w' := by
  cases s with
  | none => obtain ⟨rfl, rfl⟩ := hs rfl; exact snew_none w
  | some p => exact snew_some w bs p m hH hl
structure Tr (w : World) (a b : Nat) (bs : List Int) (t : Nat) (W : World) : Prop where
  rd : Rd W w.heap.size a bs t
  sd : Sd W w.heap.size b bs t
  dj : Dj W a b
  below : Below w.heap.size w W
  le : t ≤ 8 * bs.length
theorem Tr.step {w W W1 : World} {a b t : Nat} {bs : List Int} (h : Tr w a b bs t W) (hb : Below W.heap.size W W1) : Tr w a b bs t W1 := ⟨h.rd.below hb, Sp.below h.sd hb, h.dj.below hb h.rd.lt h.sd.lt, below_call h.below hb, h.le⟩
theorem Sd.kp {w w1 : World} {B a b : Nat} {bs : List Int} {t : Nat} (h : Sd w B b bs t) (hd : Dj w a b) (hk : Kp a w w1) : Sd w1 B b bs t ∧ Dj w1 a b := Sp.kp h hd hk
theorem Sp.lower {w : World} {B B' a : Nat} {bs : List Int} {p q : Nat} (h : Sp w B a bs p q) (hB : B' ≤ B) : Sp w B' a bs p q := by
  obtain ⟨sv, h⟩ := h
  refine ⟨sv, Nat.le_trans hB h.ge, h.blk, h.own.1, ?_⟩
  rcases h.own.2 with h2 | ⟨g, cap, cur, hv, h3, h4⟩
  · exact .inl h2
  · exact .inr ⟨g, cap, cur, hv, Nat.le_trans hB h3, h4⟩
theorem rdR_le {bs : List Int} {t : Nat} (h : t ≤ 8 * bs.length) (k n : Int) : (rdR bs t k n).2.2 ≤ 8 * bs.length := by
  have hf : ∀ R : Int × Int × Nat, R.2.2 ≤ 8 * bs.length → (fst3 R t).2.2 ≤ 8 * bs.length := fun R hR => by unfold fst3; simp only; split <;> assumption
  unfold rdR
  split
  · exact (Bi.gN_le h).2
  split
  · show rbT bs t n ≤ _
    unfold rbT
    split
    · split
      · exact Bi.rdg_le _ _ _ h
      · exact h
    · exact h
  split
  · exact hf _ (Bi.rgam_le h)
  split
  · unfold ruR
    split
    · exact hf _ (Bi.rrun_le _ _ _ h)
    · exact h
  split
  · unfold alR
    (repeat' split) <;> simp only <;> omega
  · exact h
set_option maxRecDepth 100000 in
set_option maxHeartbeats 4000000 in
theorem walk (bs : List Int) (s : Option Addr) (m : Nat) (l : List (Int × Int × Int)) (u : Option Addr) (p : Nat) (w : World) (hB : HoldsB w s bs) (hY : Bi.bytes bs) (hn0 : s = none → bs = [] ∧ m = 0) (hO : HoldsO w u l) :
    Calls Try.prog 4 #[.slice s bs.length m, .slice u l.length p] w fun e w' => e = .returned (.bool true) ∧ Below w.heap.size w w' := by
  by_cases h5 : 3000 < bs.length
  · have h6 : (3000 : Int) < (bs.length : Int) := by omega
    go_enter Try.func4, Try.ntmps4
    go_wp2_with fail
    refine (example09_c _).mono ?_
    rintro e w2 ⟨rfl, hb2⟩
    go_wp2_with fail
    go_ret
    exact ⟨rfl, hb2⟩
  by_cases h7 : 200 < l.length
  · have h6 : ¬ (3000 : Int) < (bs.length : Int) := by omega
    have h8 : (200 : Int) < (l.length : Int) := by omega
    go_enter Try.func4, Try.ntmps4
    go_wp2_with fail
    refine (example09_c _).mono ?_
    rintro e w2 ⟨rfl, hb2⟩
    go_wp2_with fail
    go_ret
    exact ⟨rfl, hb2⟩
  have hl1 : bs.length ≤ 3000 := by omega
  have hl2 : l.length ≤ 200 := by omega
  have HB := Lib.hid hB
  have HO := Lib.hid hO
  have HY := Lib.hid hY
  have HN := Lib.hid hn0
  clear hB hO hY hn0 h5 h7
  go_enter Try.func4, Try.ntmps4
  go_wp2_with fail
  refine (rnew_c _ bs s m HB.out HN.out (by omega)).mono ?_
  rintro e w2 ⟨a, rfl, hR2, hb2⟩
  go_wp2_with fail
  refine (snew_c _ bs s m (HB.out.call hb2) HN.out (by omega)).mono ?_
  rintro e w3 ⟨b, rfl, hS3, hb3⟩
  have hI : Hid (Tr w a b bs 0 w3) := ⟨hR2.below hb3, Sp.lower hS3 hb2.size, Dj.new hb3 hR2.fl (fun k hk => (hS3.foot k hk).1), below_call hb2 hb3, Nat.zero_le _⟩
  clear hR2 hb2 hS3 hb3
  go_wp2_with fail
  go_loopw [28] (fun i wr => ∃ k t : Nat, k ≤ l.length ∧ i = .int .i64 (k : Int) ∧ Hid (Tr w a b bs t wr)) (fun i _ => l.length - (intOf i).toNat)
  case atStart => exact ⟨0, 0, Nat.zero_le _, rfl, hI⟩
  case round =>
    obtain ⟨k, t, hk, rfl, hT⟩ := hrel
    by_cases hlt : k < l.length
    · obtain ⟨bo, off, rfl, hr⟩ : ∃ b off, u = some ⟨b, off, none⟩ ∧ ∀ k (_ : k < l.length), OpAt wr b (off + k * 3) l[k] := by
        rcases HO.out.call hT.out.below with rfl | h
        · simp at hlt
        · exact h
      obtain ⟨c0, c1, c2⟩ := hr k hlt
      obtain ⟨q, hq⟩ : ∃ q, q = l[k] := ⟨_, rfl⟩
      obtain ⟨q0, q1, q2⟩ := q
      rw [← hq] at c0 c1 c2
      clear hr hq
      have T0 : Tr w a b bs t (wr.alloc (.cells #[.int .i64 q0, .int .i64 q1, .int .i64 q2] 30)) := hT.out.step ((Below.refl _ _).alloc (Nat.le_refl _) _)
      have HO0 : Hid (Blk (wr.alloc (.cells #[.int .i64 q0, .int .i64 q1, .int .i64 q2] 30)) wr.heap.size 30 #[.int .i64 q0, .int .i64 q1, .int .i64 q2]) := Blk.new wr _ _
      have hr0 := read_c _ _ a bs t q0 q1 q2 T0.rd T0.le HY.out (by omega)
      have hs0 := fun (x : World) (h : Sd x w.heap.size b bs t) => readS_c x _ b bs t q0 q1 q2 h T0.le HY.out (by omega)
      have hle := rdR_le T0.le q0 q2
      have HLE := Lib.hid hle
      have HT0 := Lib.hid T0
      clear T0 hle
      generalize rdR bs t q0 q2 = R at *
      obtain ⟨V, c, t2⟩ := R
      dsimp only at hr0 hs0 HLE
      have hV : (V != V) = false := by simp
      have hc : (c != c) = false := by simp
      go_wp2_with (first | (go_at_call 31; (with_reducible refine hr0.mono ?_); rintro e x1 ⟨rfl, hR1, hK1⟩; have ho1 := op_open (HO0.out.kp hK1 (HT0.out.rd.notop HO0.out)); obtain ⟨hS1, hD1⟩ := Sd.kp HT0.out.sd HT0.out.dj hK1) | (go_at_call 32; (with_reducible refine (hs0 _ hS1).mono ?_); rintro e x2 ⟨rfl, hS2, hK2⟩; have T2 : Hid (Tr w a b bs t2 x2) := ⟨(hR1.kp hD1.symm hK2).1, hS2, (hR1.kp hD1.symm hK2).2.symm, (HT0.out.below.trans (HT0.out.rd.out hK1)).trans (Sp.out hS1 hK2), HLE.out⟩))
      go_roundw
      case rel => exact ⟨k + 1, t2, by omega, by go_num, T2⟩
      case measure => simp [intOf]; omega
    · obtain rfl : k = l.length := by omega
      go_wp2_with fail
      refine (example09_c _).mono ?_
      rintro e w5 ⟨rfl, hb5⟩
      go_wp2_with fail
      go_ret
      exact ⟨rfl, below_call hT.out.below hb5⟩

set_option maxRecDepth 100000 in
theorem lifted (os : Os) (started : os.Started) (H : Type) (enc : TypeId × Value → H) :
    ReturnsInHanded {} Try.checked os 4 .any (Rows.bitioReadsSpec.pre6 enc Try.prog Try.f4 Rows.bitioReadsRow.domain false) (Rows.bitioReadsSpec.post enc Try.prog Try.f4 false true false false) := by
  refine returnsInHanded_of_change (C := Try.checked) own started (by kernel_rfl) Try.func4
    (ChangeSpec.witness6 (enc := enc) (C := Try.checked) false ⟨#[], #[.slice none 0 0, .slice none 0 0], []⟩ 8 (by kernel_rfl) (by kernel_rfl) (by kernel_rfl) (by kernel_rfl)) ?_
  intro W base args ds gs before hval0 hW _ _
  have hval : ∀ (j : Nat) t v, Try.f4.params[j]? = some t → args[j]? = some v → Value.okWide Try.prog W .any base t v := hval0
  have hW' := hW
  obtain ⟨p, q, hA0, hV, rfl, _, _⟩ := hW
  have hA : DataW.TrodAll enc Try.prog W 0 (fun _ => true) true Try.f4.params.toList args.toList ds p := hA0
  rw [Try.params4] at hA hval
  obtain ⟨v0, vs0, d0, ds0, p0, q0, hargs, rfl, rfl, h0, r0⟩ := trodAll_cons hA
  obtain ⟨v1, vs1, d1, ds1, p1, q1, rfl, rfl, rfl, h1, r1⟩ := trodAll_cons r0
  obtain ⟨rfl, rfl, rfl⟩ := trodAll_nil r1
  obtain rfl : args = #[v0, v1] := by cases args; simp_all
  obtain ⟨rfl, rfl⟩ := trodVars_none hV
  clear hA0 hval0
  simp only [List.append_nil] at hW'
  have l0 : ∀ x ∈ p0, x.block < W.heap.size := fun x hx => hW'.lt x (by simp [hx])
  have l1 : ∀ x ∈ p1, x.block < W.heap.size := fun x hx => hW'.lt x (by simp [hx])
  obtain ⟨s0, b0, m0, rfl, hB0, hY0, hm0, _, hn0⟩ := open_bytes (hval 0 36 v0 rfl rfl) h0
  obtain ⟨s1, o1, m1, rfl, hO1⟩ := open_ops (hval 1 22 v1 rfl rfl) h1
  refine (walk b0 s0 m0 o1 s1 m1 W hB0 hY0 hn0 hO1).mono fun e W' ⟨he, hb⟩ => ?_
  subst he
  exact ⟨_, rfl, post_low (pa := p0 ++ (p1 ++ ([]))) (pv := []) hW' (fun _ _ _ => (trodAll_cons_mk (shut_bool Try.underlying4 _) trodAll_mk0)) (fun sp hsp => (trodAll_cons_mk (trod_low laidOut (by kernel_rfl) (of_decide_eq_true (by kernel_rfl)) h0 hb l0 (fun x hx => hsp x (by simp [hx]))) (trodAll_cons_mk (trod_low laidOut (by kernel_rfl) (of_decide_eq_true (by kernel_rfl)) h1 hb l1 (fun x hx => hsp x (by simp [hx]))) trodAll_mk0))) (fun _ _ => rfl) (by simp) hb (ok_one (by kernel_rfl) rfl (okWide_bool_mk Try.underlying4 _))⟩

theorem over : Rows.bitioReadsRow.holds Try.pinned (OpenSpec.ofChange Rows.bitioReadsSpec) :=
  OpenClaim.holds_of_wide 4 Try.f4 rfl rfl rfl rfl rfl rfl rfl ⟨rfl, rfl, rfl, rfl, rfl⟩ rfl rfl rfl rfl rfl (by kernel_rfl) Try.func4 (by kernel_rfl)
    (of_decide_eq_true (by kernel_rfl)) (by unfold Func.isWrapper; first | (rw [if_pos (by decide +kernel)]; kernel_rfl) | (rw [if_neg (by decide +kernel)]; exact ⟨rfl, rfl⟩))
    (fun os started H enc _ => lifted os started H enc)

theorem proved : Rows.BitioReadsSaid :=
  over
#print axioms proved
end Go.Proofs.Ytdhjmbjpigiadaa.bitioReads
