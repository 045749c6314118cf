/-
  Layer 10: the code's Encode.
-/
import Derived.Test.YtaddendclipkkaaTf
import Derived.Test.YtaddendclipkkaaWd
set_option maxRecDepth 100000
namespace Go.Proofs.Ytaddendclipkkaa
open Go.RowKit

theorem fpB {w w1 : World} {a k : Nat} (hb : Below w.heap.size w w1) (ha : a < w.heap.size) (hk : Fp w1 a k) : Fp w a k := by
  rcases hk with rfl | ⟨v, hv, hk⟩
  · exact .inl rfl
  · exact .inr ⟨v, (hb.cell (p := ⟨a, 1, none⟩) ha).symm.trans hv, hk⟩
theorem fpS {w w1 : World} {b : Nat} (h : w1.heap[b]? = w.heap[b]?) {k : Nat} (hk : Fp w1 b k) : Fp w b k := by
  rcases hk with rfl | ⟨v, hv, hk⟩
  · exact .inl rfl
  · exact .inr ⟨v, by rw [← hv]; exact (World.cell?_of_block h).symm, hk⟩
theorem put_ok2 {v : Int} (h : Bi.bit v) : bitsM v 1 = [v] ∧ bitsC v 1 = 0 := by
  rcases h with rfl | rfl <;> exact ⟨by decide, by decide⟩
theorem nil_ok : bitsM 0 0 = [] ∧ bitsC 0 0 = 0 := ⟨by decide, by decide⟩
section
variable {w w' w1 w2 W W' W0 W1 W2 : World} {B B2 A L a wd rh D : Nat} {nd : Nat → Nat} {u : Int} {Q : Nat → Nat → Nat → Nd} {s l : List Int}
theorem wr_typed (h : Wr w B a l) (k : Nat) (hk : Fp w a k) : ∃ ty cs, (ty = 88 ∨ ty = 5) ∧ Blk w k ty cs := by
  obtain ⟨sv, h⟩ := h
  rcases hk with rfl | ⟨v, hv, hk⟩
  · exact ⟨_, _, .inl rfl, h.blk⟩
  · have e := h.open.2.1
    rw [e] at hv
    obtain rfl := Option.some.inj hv
    rcases h.own.2 with ⟨rfl, _⟩ | ⟨g', cap, cur, rfl, _, hh, _⟩
    · simp [Value.ownBlock] at hk
    · have : g' = k := by simpa [Value.ownBlock] using hk
      subst this
      exact ⟨_, _, .inr rfl, hh⟩
theorem not_fp (h : Wr w B a l) {k : Nat} {ty : TypeId} {cs : Array Value} (hb : Blk w k ty cs) (ht : ty ≠ 88 ∧ ty ≠ 5) : ¬ Fp w a k := fun hk => by
  obtain ⟨ty', cs', h1, h2⟩ := wr_typed h k hk
  rcases h1 with rfl | rfl
  · exact hb.ne h2 ht.1 rfl
  · exact hb.ne h2 ht.2 rfl
theorem not_tf (h : Wr w B a l) (H : Tr w B2 A L nd wd rh D u Q) (k : Nat) (hk : Fp w a k) : ¬ Tf A L nd D k := fun ht => by
  rcases ht with rfl | rfl | ⟨i, hi, rfl⟩
  · obtain ⟨m, ho⟩ := H.obj
    exact not_fp h ho (by decide) hk
  · obtain ⟨cs, hl, _⟩ := H.lvs
    exact not_fp h hl (by decide) hk
  · obtain ⟨cs, hn, _⟩ := H.nds i hi
    exact not_fp h hn (by decide) hk
theorem wr_kn (h : Wr w B a l) (hk : Kp a w w1) : Kn w w1 :=
  ⟨hk.size, fun k ty cs ht hb => (hk.block k hb.lt (not_fp h hb (by rcases ht with rfl | rfl | rfl <;> decide))).trans hb⟩
theorem kn_below (h : Below w.heap.size w w1) : Kn w w1 := ⟨h.size, fun _ _ _ _ hb => hb.below h⟩
theorem Kn.trans (h : Kn w w1) (h' : Kn w1 w2) : Kn w w2 := ⟨Nat.le_trans h.size h'.size, fun k ty cs ht hb => h'.block k ty cs ht (h.block k ty cs ht hb)⟩
/-- The writer's side while a walk runs. -/
structure Pw (W0 : World) (B a bx M : Nat) (m : Nat) (s : List Int) (W : World) : Prop where
  wr : Wr W B a s
  kp : Kp a W0 W
  bits : Bi.bits s
  len : s.length + m ≤ M
  box : ∃ cs, Blk W bx 33 cs ∧ cs[0]? = some (.pointer (some ⟨a, 0, none⟩))
theorem Pw.stable {bx M m : Nat} (h : Pw W0 B a bx M m s W1) (hs : W0.heap.size ≤ W1.heap.size) (hk : Kw W0.heap.size W1 W2) : Pw W0 B a bx M m s W2 := by
  have hfp : ∀ k, Fp W1 a k → W2.heap[k]? = W1.heap[k]? := fun k hf => by
    obtain ⟨ty, cs, ht, hb⟩ := wr_typed h.wr k hf
    exact hk.block k hb.lt (.inr fun cs' hb' => hb.ne hb' (by rcases ht with rfl | rfl <;> decide) rfl)
  have hcell : W2.cell? ⟨a, 1, none⟩ = W1.cell? ⟨a, 1, none⟩ := World.cell?_of_block (hfp a (.inl rfl))
  obtain ⟨cs, hb, hc⟩ := h.box
  refine ⟨h.wr.keep hfp, ⟨hk.os.trans h.kp.os, hk.tape.trans h.kp.tape, hk.output.trans h.kp.output, Nat.le_trans h.kp.size hk.size, fun k hlt hn => (hk.block k (by omega) (.inl hlt)).trans (h.kp.block k hlt hn), fun k hf => h.kp.foot k ?_⟩, h.bits, h.len, ⟨cs, (hk.block bx hb.lt (.inr fun cs' hb' => hb.ne hb' (by decide) rfl)).trans hb, hc⟩⟩
  rcases hf with rfl | ⟨v, hv, hf⟩
  · exact .inl rfl
  · rw [hcell] at hv; exact .inr ⟨v, hv, hf⟩
/-- The bit of a node, and what is written then. -/
def encG (s : List Int) (n : Nd) : Int × Int × List Int := (if n.v = n.l then 1 else 0, 0, s ++ [if n.v = n.l then 1 else 0])
theorem enc1_c {bx M m : Nat} (h : Pw W0 B a bx M (m + 1) s W1) (hM : M + 32 ≤ 1000000000) (n : Nd) :
    Calls Try.prog 65 #[.agg #[.int .i64 n.v, .int .i64 n.l, .bool n.b], .pointer (some ⟨bx, 0, none⟩)] W1 fun e W2 => e = .returned (.tuple #[.int .i64 (encG s n).1, .int .i64 (encG s n).2.1]) ∧ Pw W0 B a bx M m (encG s n).2.2 W2 ∧ Kn W1 W2 := by
  have hA := below_alloc (Below.refl _ W1) (.cells #[.int .i64 n.v, .int .i64 n.l, .bool n.b] 100)
  have hA' := hA
  obtain ⟨cs, hb, hc⟩ := h.box
  have hbx : (W1.alloc (.cells #[.int .i64 n.v, .int .i64 n.l, .bool n.b] 100)).cell? ⟨bx, 0, none⟩ = some (.pointer (some ⟨a, 0, none⟩)) := by rw [(hb.below hA).cell]; exact hc
  have hW := h.wr.below hA
  have hlen := h.len
  obtain ⟨bit, hbit⟩ : ∃ bit : Int, bit = if n.v = n.l then 1 else 0 := ⟨_, rfl⟩
  have hbb : Bi.bit bit := by rw [hbit]; unfold Bi.bit; split <;> simp
  have hp := putW _ B a s bit hW h.bits (by omega)
  rw [(put_ok2 hbb).1, (put_ok2 hbb).2] at hp
  have fin : ∀ W2, WGives B a (s ++ [bit]) 0 (W1.alloc (.cells #[.int .i64 n.v, .int .i64 n.l, .bool n.b] 100)) (.returned (.int .i64 0)) W2 → Pw W0 B a bx M m (s ++ [bit]) W2 ∧ Kn W1 W2 := fun W2 hg => by
    obtain ⟨_, h1, h2⟩ := hg
    refine ⟨⟨h1, h.kp.trans ((Kp.of_below hA h.wr.lt).trans h2), Bi.bits_snoc h.bits hbb, by simp; omega, ⟨cs, (h2.block bx (hb.below hA).lt (not_fp hW (hb.below hA) (by decide))).trans (hb.below hA), hc⟩⟩, (kn_below hA).trans (wr_kn hW h2)⟩
  have FIN := Lib.hid fin
  obtain ⟨nv, nl, nb⟩ := n
  unfold encG
  dsimp only at *
  rw [← hbit]
  have HB := Lib.hid hbit
  clear hA hA' hb hW fin h hlen hbb hc hbit
  by_cases he : nv = nl
  · subst he
    obtain rfl : bit = 1 := by rw [HB.out, if_pos rfl]
    go_enter Try.func65, Try.ntmps65
    go_wp2_with (first | (go_at_call 50; (with_reducible refine hp.mono ?_); rintro e w3 ⟨rfl, h1, h2⟩; have F := Lib.hid (FIN.out w3 ⟨rfl, h1, h2⟩); clear h1 h2))
    go_ret2
    exact ⟨rfl, F.out⟩
  · obtain rfl : bit = 0 := by rw [HB.out, if_neg he]
    have he2 : (nv == nl) = false := by simpa using he
    go_enter Try.func65, Try.ntmps65
    go_wp2_with (first | (go_at_call 50; (with_reducible refine hp.mono ?_); rintro e w3 ⟨rfl, h1, h2⟩; have F := Lib.hid (FIN.out w3 ⟨rfl, h1, h2⟩); clear h1 h2))
    go_ret2
    exact ⟨rfl, F.out⟩
theorem enc_e (t : Int) (N : Nat → Nd) (D : Nat) (s : List Int) (j : Nat) : (pst encG t N D s j).e = 0 := by
  have hn : ∀ (f : Nat) (s : List Int) (n : Nd), (nrun encG t f s n).1 = 0 := by
    intro f
    induction f with
    | zero => intro s n; rfl
    | succ f ih =>
      intro s n
      unfold nrun
      split
      · rw [if_neg (by simp [encG])]
        split
        · exact ih _ _
        · exact ih _ _
      · rfl
  induction j with
  | zero => rfl
  | succ j ih =>
    show (if (pst encG t N D s j).e ≠ 0 then _ else _ : Ps (List Int)).e = 0
    rw [if_neg (by rw [ih]; simp)]
    exact hn _ _ _
/-- Encode: the state of a walk, the bits, the nodes, the use, the error. -/
def enP (Q : Nat → Nat → Nat → Nd) (D : Nat) (s : List Int) (x y : Nat) (t : Int) : Ps (List Int) := pst encG t (fun k => Q k (x / 2 ^ k) (y / 2 ^ k)) D s D
def enS (Q : Nat → Nat → Nat → Nd) (w h D : Nat) (u : Int) (s : List Int) (x y t : Int) : List Int := if u = 2 ∨ ¬ okT w h x y t 65536 then s else (enP Q D s x.toNat y.toNat t).s
def enQ (Q : Nat → Nat → Nat → Nd) (w h D : Nat) (u : Int) (s : List Int) (x y t : Int) : Nat → Nat → Nat → Nd := if u = 2 ∨ ¬ okT w h x y t 65536 then Q else upP Q x.toNat y.toNat (enP Q D s x.toNat y.toNat t).n D
def enU (w h : Nat) (u x y t : Int) : Int := if u = 2 ∨ ¬ okT w h x y t 65536 then u else 1
def enE (w h : Nat) (u x y t : Int) : Int := if u = 2 then 6 else if okT w h x y t 65536 then 0 else 2
/-- What Encode does. -/
structure En (W : World) (B B2 A L a : Nat) (nd : Nat → Nat) (w h D : Nat) (u : Int) (Q : Nat → Nat → Nat → Nd) (s s' : List Int) (u' : Int) (Q' : Nat → Nat → Nat → Nd) (W' : World) : Prop where
  tr : Tr W' B A L nd w h D u' Q'
  wr : Wr W' B2 a s'
  bits : Bi.bits s'
  len : s'.length ≤ s.length + 1200000
  kf : Kf (fun k => Fp W a k ∨ Tf A L nd D k) W W'
  foot : ∀ k, Fp W' a k → Fp W a k ∨ W.heap.size ≤ k
set_option maxHeartbeats 4000000 in
theorem encode_c (H : Tr W B A L nd wd rh D u Q) (hW : Wr W B2 a s) (hs : Bi.bits s) (hl : s.length + 1200000 + 32 ≤ 1000000000) (x y t : Int) :
    Calls Try.prog 35 #[.pointer (some ⟨A, 0, none⟩), .pointer (some ⟨a, 0, none⟩), .int .i64 x, .int .i64 y, .int .i64 t] W fun e W' => e = .returned (.int .i64 (enE wd rh u x y t)) ∧
      En W B B2 A L a nd wd rh D u Q s (enS Q wd rh D u s x y t) (enU wd rh u x y t) (enQ Q wd rh D u s x y t) W' := by
  have hA := below_alloc (Below.refl _ W) (.cells #[.pointer (some ⟨a, 0, none⟩)] 33)
  have hb0 := Blk.new W 33 #[.pointer (some ⟨a, 0, none⟩)]
  have tm := tmade_y A _ (H.below hA).cells.1
  have hb := bitsW _ B2 a s 0 0 (hW.below hA) hs (by omega)
  rw [nil_ok.1, nil_ok.2, List.append_nil] at hb
  have hbc := hb0.cell 0
  have KA := Lib.hid (Kp.of_below hA hW.lt)
  have HA := Lib.hid hA
  have HB0 := Lib.hid hb0
  have HH := Lib.hid (H.below hA)
  have HW := Lib.hid (hW.below hA)
  have HS := Lib.hid hs
  have HL := Lib.hid hl
  have D17 := Lib.hid H.d2
  generalize hbx : W.heap.size = bx at *
  have HBX := Lib.hid hbx
  generalize hX : W.alloc (.cells #[.pointer (some ⟨a, 0, none⟩)] 33) = X at *
  have HX := Lib.hid hX
  have hbc' : X.cell? ⟨bx, 0, none⟩ = some (.pointer (some ⟨a, 0, none⟩)) := hbc
  have PU : Hid (0 ≤ u ∧ u ≤ 2) := Lib.hid H.us
  -- the world behind Bits
  have mid : ∀ Y, WGives B2 a s 0 X (.returned (.int .i64 0)) Y → (Tr Y B A L nd wd rh D u Q ∧ Wr Y B2 a s ∧ Blk Y bx 33 #[.pointer (some ⟨a, 0, none⟩)] ∧ Kp a W Y) := fun Y hg => by
    obtain ⟨_, h1, h2⟩ := hg
    have hkn := wr_kn HW.out h2
    exact ⟨HH.out.kn hkn, h1, (h2.block bx HB0.out.lt (not_fp HW.out HB0.out (by decide))).trans HB0.out, KA.out.trans h2⟩
  have MID := Lib.hid mid
  clear H hW hs hl hA hb0 hbx hbc hX mid
  have call : ∀ Y, WGives B2 a s 0 X (.returned (.int .i64 0)) Y → Calls Try.prog 64 #[.pointer (some ⟨A, 0, none⟩), .int .i64 1, .int .i64 x, .int .i64 y, .int .i64 t, .func (.func 65) #[] #[.pointer (some ⟨bx, 0, none⟩)]] Y fun e W' => e = .returned (.int .i64 (enE wd rh u x y t)) ∧
      En W B B2 A L a nd wd rh D u Q s (enS Q wd rh D u s x y t) (enU wd rh u x y t) (enQ Q wd rh D u s x y t) W' := fun Y hg => by
    obtain ⟨hT, hWr, hBx, hKp⟩ := MID.out Y hg
    have kfY : ∀ Z, Below Y.heap.size Y Z → Kf (fun k => Fp W a k ∨ Tf A L nd D k) W Z := fun Z hz => ⟨hz.os.trans hKp.os, hz.tape.trans hKp.tape, hz.output.trans hKp.output, Nat.le_trans hKp.size hz.size, fun k hk hn => (hz.block k (Nat.lt_of_lt_of_le hk hKp.size)).trans (hKp.block k hk fun hf => hn (.inl hf))⟩
    by_cases h2 : u = 2
    · refine (code_st 1 t x y _ (by omega) (by omega) hT).mono ?_
      rintro e Z ⟨rfl, hz⟩
      unfold enE enS enU enQ
      rw [if_pos h2, if_pos (.inl h2), if_pos (.inl h2), if_pos (.inl h2)]
      exact ⟨rfl, hT.below hz, hWr.below hz, HS.out, by omega, kfY Z hz, fun k hk => hKp.foot k (fpB hz hWr.lt hk)⟩
    have hu : u = 0 ∨ u = 1 := by have := PU.out; omega
    by_cases hok : okT wd rh x y t 65536
    · obtain ⟨⟨i1, i2, i3, i4⟩, i5, i6⟩ := id hok
      obtain ⟨x0, rfl⟩ : ∃ n : Nat, x = n := ⟨x.toNat, by omega⟩
      obtain ⟨y0, rfl⟩ : ∃ n : Nat, y = n := ⟨y.toNat, by omega⟩
      have hFU : D * FU ≤ 1200000 := by have := D17.out; unfold FU; omega
      have hc := code_yes encG (fun m s' Z => Pw Y B2 a bx (s.length + D * FU) m s' Z) (fun s' Z => Wr Z B2 a s' ∧ Bi.bits s' ∧ s'.length ≤ s.length + D * FU ∧ Kf (fun k => Fp Y a k ∨ Tf A L nd D k) Y Z ∧ ∀ k, Fp Z a k → Fp Y a k ∨ Y.heap.size ≤ k) 65 (.pointer (some ⟨bx, 0, none⟩)) 1 t ⟨i5, i6⟩ hu (by omega) (enters_of (fn := Try.f65) (by kernel_rfl) (by kernel_rfl) rfl)
        (fun m s' Z1 Z2 h1 h2 h3 => h2.stable h1 h3)
        (fun m s' Z n h1 h2 => enc1_c h2 (by have := HL.out; omega) n)
        (fun m s' Z h1 h2 => ⟨h2.wr, h2.bits, by have := h2.len; omega, ⟨h2.kp.os, h2.kp.tape, h2.kp.output, h2.kp.size, fun k hk hn => h2.kp.block k hk fun hf => hn (.inl hf)⟩, h2.kp.foot⟩)
        (fun s' Z1 Z2 u1 Q1 h1 hTr h2 h3 => ⟨h2.1.keep fun k hf => h3.block k (h2.1.foot k hf).2 (not_tf h2.1 hTr k hf), h2.2.1, h2.2.2.1, h2.2.2.2.1.trans (h3.mono fun k hk => .inr hk), fun k hk => h2.2.2.2.2 k (fpS (h3.block a h2.1.lt (not_tf h2.1 hTr a (.inl rfl))) hk)⟩)
        hT x0 y0 (by omega) (by omega) (D * FU) s (Nat.le_refl _) ⟨hWr, Kp.refl a Y, HS.out, Nat.le_refl _, _, hBx, rfl⟩
      refine hc.mono ?_
      rintro e Z ⟨rfl, ⟨h1, h3, h4, h5, h8⟩, h6, h7⟩
      rw [enc_e] at h7 ⊢
      rw [if_pos rfl, if_pos rfl] at h7
      unfold enE enS enU enQ enP
      rw [if_neg h2, if_pos hok, if_neg (fun c => c.elim h2 (fun d => d hok)), if_neg (fun c => c.elim h2 (fun d => d hok)), if_neg (fun c => c.elim h2 (fun d => d hok))]
      simp only [Int.toNat_natCast]
      refine ⟨trivial, h7, h1, h3, by omega, ⟨h5.os.trans hKp.os, h5.tape.trans hKp.tape, h5.output.trans hKp.output, Nat.le_trans hKp.size h5.size, fun k hk hn => (h5.block k (Nat.lt_of_lt_of_le hk hKp.size) fun hf => ?_).trans (hKp.block k hk fun hf => hn (.inl hf))⟩, fun k hk => (h8 k hk).elim (fun z => hKp.foot k z) (fun z => .inr (Nat.le_trans hKp.size z))⟩
      rcases hf with hf | hf
      · rcases hKp.foot k hf with hf | hf
        · exact hn (.inl hf)
        · omega
      · exact hn (.inr hf)
    · refine (code_rg 1 t x y _ hu hok hT).mono ?_
      rintro e Z ⟨rfl, hz⟩
      unfold enE enS enU enQ
      rw [if_neg h2, if_neg hok, if_pos (.inr hok), if_pos (.inr hok), if_pos (.inr hok)]
      exact ⟨rfl, hT.below hz, hWr.below hz, HS.out, by omega, kfY Z hz, fun k hk => hKp.foot k (fpB hz hWr.lt hk)⟩
  have CALL := Lib.hid call
  clear call
  generalize enE wd rh u x y t = ee at *
  generalize enS Q wd rh D u s x y t = es at *
  generalize enU wd rh u x y t = eu at *
  generalize enQ Q wd rh D u s x y t = eq at *
  have e1 := HX.out
  have e2 := HBX.out
  clear HX HBX
  subst e1
  subst e2
  clear HH HW HB0 HA KA MID
  go_enter Try.func35, Try.ntmps35
  go_wp2_with (first | (go_at_call 59; (with_reducible refine tm.mono ?_); rintro e wn ⟨rfl, rfl⟩))
  refine hb.mono ?_
  rintro e w1 hg
  obtain ⟨rfl, hg1, hg2⟩ := hg
  have cl := CALL.out w1 ⟨rfl, hg1, hg2⟩
  clear hg1 hg2 hb tm hbc'
  go_wp2_with fail
  refine cl.mono ?_
  rintro e w2 ⟨rfl, hE⟩
  have F := Lib.hid hE
  clear hE cl
  go_wp2_with fail
  go_ret
  exact ⟨rfl, F.out⟩
end
end Go.Proofs.Ytaddendclipkkaa
