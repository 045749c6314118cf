/-
  Layer 10: the code's Decode.
-/
import Derived.Test.YtaddendclipkkaaTg
import Derived.Test.YtaddendclipkkaaRb
set_option maxRecDepth 100000
namespace Go.Proofs.Ytaddendclipkkaa
open Go.RowKit

section
variable {w w' w1 w2 W W' W0 W1 W2 : World} {B B2 A L a wd rh D : Nat} {nd : Nat → Nat} {u : Int} {Q : Nat → Nat → Nat → Nd} {l : List Int} {tt : Nat}
theorem rd_typed (h : Rd w B a l tt) (k : Nat) (hk : Fp w a k) : ∃ ty cs, (ty = 82 ∨ ty = 5) ∧ Blk w k ty cs := by
  obtain ⟨sv, h⟩ := h
  rcases hk with rfl | ⟨v, hv, hk⟩
  · exact ⟨_, _, .inl rfl, h.blk⟩
  · have e : w.cell? ⟨a, 1, none⟩ = some sv := h.blk.cell 1
    rw [e] at hv
    obtain rfl := Option.some.inj hv
    rcases h.own.2 with ⟨rfl, _⟩ | ⟨g', cap, cur, rfl, _, hh, _⟩
    · simp [Value.ownBlock] at hk
    · have : g' = k := by simpa [Value.ownBlock] using hk
      subst this
      exact ⟨_, _, .inr rfl, hh⟩
theorem not_fpR (h : Rd w B a l tt) {k : Nat} {ty : TypeId} {cs : Array Value} (hb : Blk w k ty cs) (ht : ty ≠ 82 ∧ ty ≠ 5) : ¬ Fp w a k := fun hk => by
  obtain ⟨ty', cs', h1, h2⟩ := rd_typed h k hk
  rcases h1 with rfl | rfl
  · exact hb.ne h2 ht.1 rfl
  · exact hb.ne h2 ht.2 rfl
theorem not_tfR (h : Rd w B a l tt) (H : Tr w B2 A L nd wd rh D u Q) (k : Nat) (hk : Fp w a k) : ¬ Tf A L nd D k := fun ht => by
  rcases ht with rfl | rfl | ⟨i, hi, rfl⟩
  · obtain ⟨m, ho⟩ := H.obj
    exact not_fpR h ho (by decide) hk
  · obtain ⟨cs, hl, _⟩ := H.lvs
    exact not_fpR h hl (by decide) hk
  · obtain ⟨cs, hn, _⟩ := H.nds i hi
    exact not_fpR h hn (by decide) hk
theorem rd_kn (h : Rd w B a l tt) (hk : Kp a w w1) : Kn w w1 :=
  ⟨hk.size, fun k ty cs ht hb => (hk.block k hb.lt (not_fpR h hb (by rcases ht with rfl | rfl | rfl <;> decide))).trans hb⟩
/-- The reader's side while a walk runs. -/
structure Pr (W0 : World) (B a bx : Nat) (bs : List Int) (tt : Nat) (W : World) : Prop where
  rd : Rd W B a bs tt
  kp : Kp a W0 W
  le : tt ≤ 8 * bs.length
  box : ∃ cs, Blk W bx 26 cs ∧ cs[0]? = some (.pointer (some ⟨a, 0, none⟩))
theorem Pr.stable {bx : Nat} {bs : List Int} (h : Pr W0 B a bx bs tt W1) (hs : W0.heap.size ≤ W1.heap.size) (hk : Kw W0.heap.size W1 W2) : Pr W0 B a bx bs tt W2 := by
  have hfp : ∀ k, Fp W1 a k → W2.heap[k]? = W1.heap[k]? := fun k hf => by
    obtain ⟨ty, cs, ht, hb⟩ := rd_typed h.rd k hf
    exact hk.block k hb.lt (.inr fun cs' hb' => hb.ne hb' (by rcases ht with rfl | rfl <;> decide) rfl)
  have hcell : W2.cell? ⟨a, 1, none⟩ = W1.cell? ⟨a, 1, none⟩ := World.cell?_of_block (hfp a (.inl rfl))
  obtain ⟨cs, hb, hc⟩ := h.box
  refine ⟨h.rd.keep hfp, ⟨hk.os.trans h.kp.os, hk.tape.trans h.kp.tape, hk.output.trans h.kp.output, Nat.le_trans h.kp.size hk.size, fun k hlt hn => (hk.block k (by omega) (.inl hlt)).trans (h.kp.block k hlt hn), fun k hf => h.kp.foot k ?_⟩, h.le, ⟨cs, (hk.block bx hb.lt (.inr fun cs' hb' => hb.ne hb' (by decide) rfl)).trans hb, hc⟩⟩
  rcases hf with rfl | ⟨v, hv, hf⟩
  · exact .inl rfl
  · rw [hcell] at hv; exact .inr ⟨v, hv, hf⟩
/-- The next bit, its error, the place then. -/
def decG (bs : List Int) (tt : Nat) (_ : Nd) : Int × Int × Nat := (Bi.gR bs tt, Bi.gE bs tt, Bi.gN bs tt)
theorem dec1_c {bx : Nat} {bs : List Int} (h : Pr W0 B a bx bs tt W1) (hby : Bi.bytes bs) (hl : bs.length ≤ 100000000) (n : Nd) :
    Calls Try.prog 68 #[.agg #[.int .i64 n.v, .int .i64 n.l, .bool n.b], .pointer (some ⟨bx, 0, none⟩)] W1 fun e W2 => e = .returned (.tuple #[.int .i64 (decG bs tt n).1, .int .i64 (decG bs tt n).2.1]) ∧ Pr W0 B a bx bs (decG bs tt n).2.2 W2 ∧ Kn W1 W2 := by
  have hA := below_alloc (Below.refl _ W1) (.cells #[.int .i64 n.v, .int .i64 n.l, .bool n.b] 100)
  obtain ⟨cs, hb, hc⟩ := h.box
  have hbx : (W1.alloc (.cells #[.int .i64 n.v, .int .i64 n.l, .bool n.b] 100)).cell? ⟨bx, 0, none⟩ = some (.pointer (some ⟨a, 0, none⟩)) := by rw [(hb.below hA).cell]; exact hc
  have hW := h.rd.below hA
  have hp := get_c _ B a bs tt hW h.le hby hl
  have fin : ∀ W2, RGives B a bs (Bi.gN bs tt) (Bi.gR bs tt) (Bi.gE bs tt) (W1.alloc (.cells #[.int .i64 n.v, .int .i64 n.l, .bool n.b] 100)) (.returned (.tuple #[.int .i64 (Bi.gR bs tt), .int .i64 (Bi.gE bs tt)])) W2 → Pr W0 B a bx bs (Bi.gN bs tt) W2 ∧ Kn W1 W2 := fun W2 hg => by
    obtain ⟨_, h1, h2⟩ := hg
    refine ⟨⟨h1, h.kp.trans ((Kp.of_below hA h.rd.lt).trans h2), (Bi.gN_le h.le).2, ⟨cs, (h2.block bx (hb.below hA).lt (not_fpR hW (hb.below hA) (by decide))).trans (hb.below hA), hc⟩⟩, (kn_below hA).trans (rd_kn hW h2)⟩
  have FIN := Lib.hid fin
  obtain ⟨nv, nl, nb⟩ := n
  unfold decG
  dsimp only at *
  generalize Bi.gR bs tt = bit at *
  generalize Bi.gE bs tt = er at *
  generalize Bi.gN bs tt = t2 at *
  clear hA hb hW fin h hc hby hl
  go_enter Try.func68, Try.ntmps68
  go_wp2_with fail
  refine hp.mono ?_
  rintro e w3 ⟨rfl, h1, h2⟩
  have F := Lib.hid (FIN.out w3 ⟨rfl, h1, h2⟩)
  clear h1 h2 hp hbx
  go_wp2_with fail
  go_ret2
  exact ⟨rfl, F.out⟩
/-- Decode: the state of a walk; whether the value is less, the error, the nodes, the use, the place. -/
def deP (bs : List Int) (Q : Nat → Nat → Nat → Nd) (D : Nat) (tt : Nat) (x y : Nat) (t : Int) : Ps Nat := pst (decG bs) t (fun k => Q k (x / 2 ^ k) (y / 2 ^ k)) D tt D
def deE (bs : List Int) (Q : Nat → Nat → Nat → Nd) (w h D : Nat) (u : Int) (tt : Nat) (x y t : Int) : Int := if u = 1 then 6 else if okT w h x y t 65536 then (deP bs Q D tt x.toNat y.toNat t).e else 2
def deB (bs : List Int) (Q : Nat → Nat → Nat → Nd) (w h D : Nat) (u : Int) (tt : Nat) (x y t : Int) : Bool := if deE bs Q w h D u tt x y t = 0 then ((deP bs Q D tt x.toNat y.toNat t).n 0).b && decide (((deP bs Q D tt x.toNat y.toNat t).n 0).l < t) else false
def deT (bs : List Int) (Q : Nat → Nat → Nat → Nd) (w h D : Nat) (u : Int) (tt : Nat) (x y t : Int) : Nat := if u = 1 ∨ ¬ okT w h x y t 65536 then tt else (deP bs Q D tt x.toNat y.toNat t).s
def deQ (bs : List Int) (Q : Nat → Nat → Nat → Nd) (w h D : Nat) (u : Int) (tt : Nat) (x y t : Int) : Nat → Nat → Nat → Nd := if deE bs Q w h D u tt x y t = 0 then upP Q x.toNat y.toNat (deP bs Q D tt x.toNat y.toNat t).n D else Q
def deU (bs : List Int) (Q : Nat → Nat → Nat → Nd) (w h D : Nat) (u : Int) (tt : Nat) (x y t : Int) : Int := if deE bs Q w h D u tt x y t = 0 then 2 else u
/-- What Decode does. -/
structure De (W : World) (B B2 A L a : Nat) (nd : Nat → Nat) (w h D : Nat) (bs : List Int) (tt' : Nat) (u' : Int) (Q' : Nat → Nat → Nat → Nd) (W' : World) : Prop where
  tr : Tr W' B A L nd w h D u' Q'
  rd : Rd W' B2 a bs tt'
  le : tt' ≤ 8 * bs.length
  kf : Kf (fun k => Fp W a k ∨ Tf A L nd D k) W W'
  foot : ∀ k, Fp W' a k → Fp W a k ∨ W.heap.size ≤ k
theorem rb_zero (bs : List Int) (tt : Nat) : rbT bs tt 0 = tt ∧ rbV bs tt 0 = 0 ∧ rbE bs tt 0 = 0 := by
  have e : dgB 0 = true := by decide
  unfold rbT rbV rbE
  rw [e]
  exact ⟨rfl, rfl, rfl⟩
set_option maxHeartbeats 4000000 in
theorem dcode_c {bx : Nat} {bs : List Int} {Y : World} (hT : Tr Y B A L nd wd rh D u Q) (hRd : Rd Y B2 a bs tt) (hBx : Blk Y bx 26 #[.pointer (some ⟨a, 0, none⟩)]) (hle : tt ≤ 8 * bs.length) (hby : Bi.bytes bs) (hl : bs.length ≤ 100000000) (x y t : Int) :
    Calls Try.prog 64 #[.pointer (some ⟨A, 0, none⟩), .int .i64 2, .int .i64 x, .int .i64 y, .int .i64 t, .func (.func 68) #[] #[.pointer (some ⟨bx, 0, none⟩)]] Y fun e W' => e = .returned (.int .i64 (deE bs Q wd rh D u tt x y t)) ∧
      De Y B B2 A L a nd wd rh D bs (deT bs Q wd rh D u tt x y t) (deU bs Q wd rh D u tt x y t) (deQ bs Q wd rh D u tt x y t) W' := by
  have kfY : ∀ Z, Below Y.heap.size Y Z → Kf (fun k => Fp Y a k ∨ Tf A L nd D k) Y Z := fun Z hz => Kf.of_below _ hz
  have PU := hT.us
  by_cases h1 : u = 1
  · refine (code_st 2 t x y _ (by omega) (by omega) hT).mono ?_
    rintro e Z ⟨rfl, hz⟩
    have he : deE bs Q wd rh D u tt x y t = 6 := by unfold deE; rw [if_pos h1]
    unfold deT deU deQ
    rw [he, if_pos (.inl h1), if_neg (by decide), if_neg (by decide)]
    exact ⟨rfl, hT.below hz, hRd.below hz, hle, kfY Z hz, fun k hk => .inl (fpB hz hRd.lt hk)⟩
  have hu : u = 0 ∨ u = 2 := by omega
  by_cases hok : okT wd rh x y t 65536
  · obtain ⟨⟨i1, i2, i3, i4⟩, i5, i6⟩ := id hok
    obtain ⟨x0, rfl⟩ : ∃ n : Nat, x = n := ⟨x.toNat, by omega⟩
    obtain ⟨y0, rfl⟩ : ∃ n : Nat, y = n := ⟨y.toNat, by omega⟩
    have hc := code_yes (decG bs) (fun _ t' Z => Pr Y B2 a bx bs t' Z) (fun t' Z => Rd Z B2 a bs t' ∧ t' ≤ 8 * bs.length ∧ Kf (fun k => Fp Y a k ∨ Tf A L nd D k) Y Z ∧ ∀ k, Fp Z a k → Fp Y a k ∨ Y.heap.size ≤ k) 68 (.pointer (some ⟨bx, 0, none⟩)) 2 t ⟨i5, i6⟩ hu (by omega) (enters_of (fn := Try.f68) (by kernel_rfl) (by kernel_rfl) rfl)
      (fun m s' Z1 Z2 h1 h2 h3 => h2.stable h1 h3)
      (fun m s' Z n h1 h2 => dec1_c h2 hby hl n)
      (fun m s' Z h1 h2 => ⟨h2.rd, h2.le, ⟨h2.kp.os, h2.kp.tape, h2.kp.output, h2.kp.size, fun k hk hn => h2.kp.block k hk fun hf => hn (.inl hf)⟩, h2.kp.foot⟩)
      (fun s' Z1 Z2 u1 Q1 h1 hTr h2 h3 => ⟨h2.1.keep fun k hf => h3.block k (h2.1.foot k hf).2 (not_tfR h2.1 hTr k hf), h2.2.1, h2.2.2.1.trans (h3.mono fun k hk => .inr hk), fun k hk => h2.2.2.2 k (fpS (h3.block a h2.1.lt (not_tfR h2.1 hTr a (.inl rfl))) hk)⟩)
      hT x0 y0 (by omega) (by omega) (D * FU) tt (Nat.le_refl _) ⟨hRd, Kp.refl a Y, hle, _, hBx, rfl⟩
    have he : deE bs Q wd rh D u tt (x0 : Int) (y0 : Int) t = (deP bs Q D tt x0 y0 t).e := by unfold deE; rw [if_neg h1, if_pos hok]; rfl
    unfold deT deU deQ
    rw [he, if_neg (fun c => c.elim h1 (fun d => d hok))]
    show Calls _ _ _ _ fun e W' => e = .returned (.int .i64 (deP bs Q D tt x0 y0 t).e) ∧ De Y B B2 A L a nd wd rh D bs (deP bs Q D tt x0 y0 t).s (if (deP bs Q D tt x0 y0 t).e = 0 then 2 else u) (if (deP bs Q D tt x0 y0 t).e = 0 then upP Q x0 y0 (deP bs Q D tt x0 y0 t).n D else Q) W'
    refine hc.mono ?_
    rintro e Z ⟨rfl, ⟨h2, h3, h4, h5⟩, h6, h7⟩
    exact ⟨rfl, h7, h2, h3, h4, h5⟩
  · refine (code_rg 2 t x y _ hu hok hT).mono ?_
    rintro e Z ⟨rfl, hz⟩
    have he : deE bs Q wd rh D u tt x y t = 2 := by unfold deE; rw [if_neg h1, if_neg hok]
    unfold deT deU deQ
    rw [he, if_pos (.inr hok), if_neg (by decide), if_neg (by decide)]
    exact ⟨rfl, hT.below hz, hRd.below hz, hle, kfY Z hz, fun k hk => .inl (fpB hz hRd.lt hk)⟩
set_option maxHeartbeats 4000000 in
theorem decode_c {bs : List Int} (H : Tr W B A L nd wd rh D u Q) (hR : Rd W B2 a bs tt) (hle : tt ≤ 8 * bs.length) (hby : Bi.bytes bs) (hl : bs.length ≤ 100000000) (x y t : Int) :
    Calls Try.prog 39 #[.pointer (some ⟨A, 0, none⟩), .pointer (some ⟨a, 0, none⟩), .int .i64 x, .int .i64 y, .int .i64 t] W fun e W' => e = .returned (.tuple #[.bool (deB bs Q wd rh D u tt x y t), .int .i64 (deE bs Q wd rh D u tt x y t)]) ∧
      De W B B2 A L a nd wd rh D bs (deT bs Q wd rh D u tt x y t) (deU bs Q wd rh D u tt x y t) (deQ bs Q wd rh D u tt x y t) W' := by
  have hA := below_alloc (Below.refl _ W) (.cells #[.pointer (some ⟨a, 0, none⟩)] 26)
  have hb0 := Blk.new W 26 #[.pointer (some ⟨a, 0, none⟩)]
  have tm := tmade_y A _ (H.below hA).cells.1
  have hb := rbits_c _ B2 a bs tt 0 (hR.below hA) hle hby hl
  rw [(rb_zero bs tt).1, (rb_zero bs tt).2.1, (rb_zero bs tt).2.2] at hb
  have hbc' : (W.alloc (.cells #[.pointer (some ⟨a, 0, none⟩)] 26)).cell? ⟨W.heap.size, 0, none⟩ = some (.pointer (some ⟨a, 0, none⟩)) := hb0.cell 0
  have mid : ∀ Y, RGives B2 a bs tt 0 0 (W.alloc (.cells #[.pointer (some ⟨a, 0, none⟩)] 26)) (.returned (.tuple #[.int .i64 0, .int .i64 0])) Y → (Tr Y B A L nd wd rh D u Q ∧ Rd Y B2 a bs tt ∧ Blk Y W.heap.size 26 #[.pointer (some ⟨a, 0, none⟩)] ∧ Kp a W Y) := fun Y hg => by
    obtain ⟨_, h1, h2⟩ := hg
    have hkn := rd_kn (hR.below hA) h2
    exact ⟨(H.below hA).kn hkn, h1, (h2.block W.heap.size hb0.lt (not_fpR (hR.below hA) hb0 (by decide))).trans hb0, (Kp.of_below hA hR.lt).trans h2⟩
  have call : ∀ Y, RGives B2 a bs tt 0 0 (W.alloc (.cells #[.pointer (some ⟨a, 0, none⟩)] 26)) (.returned (.tuple #[.int .i64 0, .int .i64 0])) Y → Calls Try.prog 64 #[.pointer (some ⟨A, 0, none⟩), .int .i64 2, .int .i64 x, .int .i64 y, .int .i64 t, .func (.func 68) #[] #[.pointer (some ⟨W.heap.size, 0, none⟩)]] Y fun e W' => e = .returned (.int .i64 (deE bs Q wd rh D u tt x y t)) ∧
      De W B B2 A L a nd wd rh D bs (deT bs Q wd rh D u tt x y t) (deU bs Q wd rh D u tt x y t) (deQ bs Q wd rh D u tt x y t) W' := fun Y hg => by
    obtain ⟨hT, hRd, hBx, hKp⟩ := mid Y hg
    refine (dcode_c hT hRd hBx hle hby hl x y t).mono ?_
    rintro e Z ⟨rfl, hD⟩
    refine ⟨rfl, hD.tr, hD.rd, hD.le, ⟨hD.kf.os.trans hKp.os, hD.kf.tape.trans hKp.tape, hD.kf.output.trans hKp.output, Nat.le_trans hKp.size hD.kf.size, fun k hk hn => (hD.kf.block k (Nat.lt_of_lt_of_le hk hKp.size) fun hf => ?_).trans (hKp.block k hk fun hf => hn (.inl hf))⟩, fun k hk => (hD.foot k hk).elim (fun z => hKp.foot k z) (fun z => .inr (Nat.le_trans hKp.size z))⟩
    rcases hf with hf | hf
    · rcases hKp.foot k hf with hf | hf
      · exact hn (.inl hf)
      · omega
    · exact hn (.inr hf)
  have CALL := Lib.hid call
  -- the leaf, where the walk has succeeded
  have leaf : deE bs Q wd rh D u tt x y t = 0 → ∃ x0 y0 : Nat, x = x0 ∧ y = y0 ∧ x0 < wd ∧ y0 < rh ∧ deQ bs Q wd rh D u tt x y t 0 (x0 / 2 ^ 0) (y0 / 2 ^ 0) = (deP bs Q D tt x.toNat y.toNat t).n 0 := fun he => by
    have hne : u ≠ 1 ∧ okT wd rh x y t 65536 := by
      unfold deE at he
      by_cases h1 : u = 1
      · rw [if_pos h1] at he; omega
      · rw [if_neg h1] at he
        by_cases hok : okT wd rh x y t 65536
        · exact ⟨h1, hok⟩
        · rw [if_neg hok] at he; omega
    obtain ⟨⟨i1, i2, i3, i4⟩, i5, i6⟩ := hne.2
    refine ⟨x.toNat, y.toNat, by omega, by omega, by omega, by omega, ?_⟩
    unfold deQ
    rw [if_pos he]
    unfold upP
    rw [if_pos ⟨H.d1, rfl, rfl⟩]
  have LEAF := Lib.hid leaf
  have DB : Hid (deB bs Q wd rh D u tt x y t = if deE bs Q wd rh D u tt x y t = 0 then ((deP bs Q D tt x.toNat y.toNat t).n 0).b && decide (((deP bs Q D tt x.toNat y.toNat t).n 0).l < t) else false) := Lib.hid rfl
  have HD1 := Lib.hid H.d1
  clear H hR hle hby hl hA hb0 mid call leaf
  generalize (deP bs Q D tt x.toNat y.toNat t).n 0 = n0 at *
  generalize deB bs Q wd rh D u tt x y t = db at *
  generalize deE bs Q wd rh D u tt x y t = ee at *
  generalize deT bs Q wd rh D u tt x y t = et at *
  generalize deU bs Q wd rh D u tt x y t = eu at *
  generalize deQ bs Q wd rh D u tt x y t = eq at *
  go_enter Try.func39, Try.ntmps39
  go_wp2_with (first | (go_at_call 59; (with_reducible refine tm.mono ?_); rintro e wn ⟨rfl, rfl⟩))
  refine hb.mono ?_
  rintro e w1 ⟨rfl, hg1, hg2⟩
  have cl := CALL.out w1 ⟨rfl, hg1, hg2⟩
  clear hg1 hg2 hb tm hbc'
  go_wp2_with fail
  refine cl.mono ?_
  rintro e w2 ⟨rfl, hE⟩
  have F := Lib.hid hE
  clear hE cl
  by_cases he : ee = 0
  · obtain ⟨x0, y0, rfl, rfl, hx, hy, hq⟩ := LEAF.out he
    subst he
    have hdb := DB.out
    rw [if_pos rfl] at hdb
    obtain ⟨i, hi⟩ : ∃ i, i = y0 / 2 ^ 0 * dm wd 0 + x0 / 2 ^ 0 := ⟨_, rfl⟩
    have hon := on_c F.out.tr 0 x0 y0 HD1.out hx hy i hi
    have HXY := Lib.hid (And.intro hx (And.intro hy hi))
    have HQ := Lib.hid hq
    have HDB := Lib.hid hdb
    clear hx hy hi hq hdb
    go_wp2_with fail
    refine hon.mono ?_
    rintro e w3 ⟨rfl, hb⟩
    obtain ⟨a0, a1, a2⟩ := (F.out.tr.below hb).at HD1.out HXY.out.1 HXY.out.2.1 HXY.out.2.2
    rw [HQ.out] at a1 a2
    have F3 : Hid (De W B B2 A L a nd wd rh D bs et eu eq w3) := by
      have f := F.out
      exact ⟨f.tr.below hb, f.rd.below hb, f.le, f.kf.trans (Kf.of_below _ hb), fun k hk => f.foot k (fpB hb f.rd.lt hk)⟩
    clear hon hb a0
    obtain ⟨nv, nl, nb⟩ := n0
    dsimp only at a1 a2
    cases nb with
    | false =>
      go_wp2_with fail
      go_ret2
      exact ⟨by rw [HDB.out]; rfl, F3.out⟩
    | true =>
      go_wp2_with fail
      go_ret2
      exact ⟨by rw [HDB.out]; simp, F3.out⟩
  · have he2 : (ee != 0) = true := by simpa using he
    have hdb := DB.out
    rw [if_neg he] at hdb
    subst hdb
    clear he
    go_wp2_with fail
    go_ret2
    exact ⟨rfl, F.out⟩
end
end Go.Proofs.Ytaddendclipkkaa
