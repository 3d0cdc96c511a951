import Derived.Test.YtlbjjbolbopfmaaGreatDoorJ43
import Derived.Test.YtlbjjbolbopfmaaGreatDoorJ45
import Derived.Test.YtlbjjbolbopfmaaGreatDoorJ23
import Derived.Test.YtlbjjbolbopfmaaGreatDoorJ39
namespace Go.Proofs.YtlbjjbolbopfmaaGreatDoor
set_option maxHeartbeats 8000000
set_option maxRecDepth 1000000
set_option linter.unusedVariables false
section
open Go.RowKit
theorem z_mZ (p : Nat) (lo : Option Addr) (cap : Nat) (ls : List Ln) (hl : ls.length ≤ 60) (hcap : ls.length ≤ cap) (hl0 : 0 < ls.length) (hg : ∀ l ∈ ls, GoodL l) : ∀ n, CkIH n p lo cap ls
 | 0 => z_kj 0 p lo cap ls hl hl0 hg fun t rest at_ br ks ht hn _ _ _ _ => by
   have h := z_b7 t
   have hpos : 1 ≤ z_ai t := by cases t <;> simp [z_ai, z_aR] at hn ⊢
   exact absurd ht (by omega)
 | n + 1 => z_kj (n + 1) p lo cap ls hl hl0 hg fun t rest at_ br ks ht hn ho hw hd hk => z_kp n p lo cap ls hl hcap hg (z_mZ p lo cap ls hl hcap hl0 hg n) t rest at_ br ks ht hn ho hw hd hk
theorem z_fk (ao : Option Addr) (cap : Nat) (ls : List Ln) (w : World) (hcap : ls.length ≤ cap) (hl : 60 < ls.length) (hl2 : ls.length ≤ 1048576) :
  Calls Tryz.prog 31 #[.slice ao ls.length cap] w fun e w' => ∃ a b : Int, e = .returned (.agg #[.int .i64 a, .int .i64 b]) ∧ Below w.heap.size w w' ∧ z_bV b ls := by
 have HL : Hid (60 < ls.length) := hl
 go_enter Tryz.func31, Tryz.ntmps31
 go_wp2
 refine bodyPost_ret (v := .agg #[.int .i64 0, .int .i64 8]) (by simp [results, Tryz.results31, go_sem]) rfl ?_
 exact ⟨_, _, rfl, (Below.refl _ _).alloc (Nat.le_refl _) _, .inr ⟨by decide, .inl HL.out⟩⟩
theorem z_j0 {ls : List Ln} (hz : ∀ l ∈ ls, LnSz l) (hb : ∀ l ∈ ls, backL l = true) : ∀ l ∈ ls, GoodL l := fun l hl => by
 obtain ⟨hg, r, hr⟩ := z_h0 (hb l hl)
 exact ⟨hz l hl, hg, fun h => z_ld h hr⟩
theorem z_ks {l0 : Ln} {t : Bl} {ks : List ByteArray} {c : Bool} (hn : l0.2.args.Nodup) (h : z_al l0.2.args false true t = some (ks, c)) : z_bC l0 t = !c := by
 have e : uniU [] l0.2.args = l0.2.args := by rw [z_b5 l0.2.args [] ⟨fun x hx => rfl, hn⟩, List.nil_append]
 rw [z_bC, e, h]; cases c <;> rfl
theorem z_kK {l0 : Ln} {t : Bl} (hn : l0.2.args.Nodup) (h : z_al l0.2.args false true t = none) : z_bC l0 t = false := by
 have e : uniU [] l0.2.args = l0.2.args := by rw [z_b5 l0.2.args [] ⟨fun x hx => rfl, hn⟩, List.nil_append]
 rw [z_bC, e, h]
theorem z_ln (w : World) (o o' : Obj) (B : TypeId) : (((w.alloc o).alloc o').alloc (.cells #[] B)).ownsRow (w.heap.size + 1 + 1) B 1 (.slice (some ⟨w.heap.size + 1 + 1, 0, none⟩) 0 0) 0 [] := by
 have h := z_dW (w.alloc o) o' B
 rw [World.size_alloc] at h
 exact h
structure ChkSt (w W1 : World) (L : Value) (args : List ByteArray) (w3 : World) (uo : Option Addr) : Prop where
 below : Below w.heap.size w w3
 res : FBox w3 w.heap.size 0 0
 obj : CObj w3 (W1.heap.size + 1) L 1 0 0
 strs : StrsAt (W1.heap.size + 1 + 1) w3.heap.size w3 uo args
theorem z_km {w W1 : World} {o : Obj} {L : Value} (hb : Below w.heap.size w W1) (hr : FBox W1 w.heap.size 0 0) :
  ChkSt w W1 L [] (((W1.alloc o).alloc (.cells #[L, .int .i64 1, .int .i64 0, .int .i64 0] 102)).alloc (.cells #[] 9)) (some ⟨W1.heap.size + 1 + 1, 0, none⟩) := by
 have h2 : Below W1.heap.size W1 (((W1.alloc o).alloc (.cells #[L, .int .i64 1, .int .i64 0, .int .i64 0] 102)).alloc (.cells #[] 9)) := (z_ab _ _ _).alloc (by simp; omega) _
 refine ⟨hb.trans (h2.mono hb.size), hr.below h2, ?_, StrsAt.nil _ _ _ _⟩
 have h := heap_alloc_new (W1.alloc o) (.cells #[L, .int .i64 1, .int .i64 0, .int .i64 0] 102)
 rw [World.size_alloc] at h
 exact (Below.heap_alloc _ _ _ (by simp)).trans h
theorem z_nf {w W1 w3 : World} {o : Obj} {L : Value} {uo : Option Addr} {uc : Nat} {args : List ByteArray} (hb : Below w.heap.size w W1) (hr : FBox W1 w.heap.size 0 0)
  (hown : w3.ownsRow (W1.heap.size + 1 + 1) 9 1 (.slice uo args.length uc) args.length (strCells args)) (hg : (((W1.alloc o).alloc (.cells #[L, .int .i64 1, .int .i64 0, .int .i64 0] 102)).alloc (.cells #[] 9)).grownBy w3 (Value.slice (some ⟨W1.heap.size + 1 + 1, 0, none⟩) 0 0).ownBlock) :
  ChkSt w W1 L args w3 uo := by
 have h := z_km (o := o) (L := L) hb hr
 have hws := hb.size
 have hwl := hr.lt
 refine ⟨h.below.grown hg h.below.size (fun j hj => by simp [Value.ownBlock] at hj; omega), (hg.block _ (by simp; omega) (by simp [Value.ownBlock]; try omega)).trans h.res, h.obj.keep (hg.block _ (by simp; try omega) (by simp [Value.ownBlock])), ?_⟩
 obtain ⟨ao', cap', e, _, hs'⟩ := StrsAt.of_owns hown
 simp only [Value.slice.injEq] at e
 obtain ⟨rfl, _, rfl⟩ := e
 exact hs'
theorem z_eR {w w3 w4 : World} {p : Nat} (hp : w.heap.size < p) (hb : Below w.heap.size w w3) (hr : FBox w3 w.heap.size 0 0) (hg : w3.grownBy w4 (some p)) : Below w.heap.size w w4 ∧ FBox w4 w.heap.size 0 0 :=
 ⟨hb.grown hg hb.size (fun j hj => by cases hj; omega), (hg.block _ hr.lt (by simp; omega)).trans hr⟩
theorem z_fm (ao : Option Addr) (cap : Nat) (ls : List Ln) (w : World) (hcap : ls.length ≤ cap) (hl : ls.length ≤ 60) (hi : LinesAt w.heap.size w ao ls) (hz : ∀ l ∈ ls, LnSz l) :
  Calls Tryz.prog 31 #[.slice ao ls.length cap] w fun e w' => ∃ a b : Int, e = .returned (.agg #[.int .i64 a, .int .i64 b]) ∧ Below w.heap.size w w' ∧ z_bV b ls := by
 obtain ⟨i0, hi0, hz0, hz1, hz2⟩ := info_parts Tryz.infoStr
 have HI : Hid (LinesAt w.heap.size w ao ls) := hi
 have HZ : Hid (∀ l ∈ ls, LnSz l) := hz
 have HS0 : Hid (Below w.heap.size w (w.alloc (.cells #[.int .i64 0, .int .i64 0] 43))) := (Below.refl _ _).alloc (Nat.le_refl _) _
 clear hi hz
 have hgt : (ls.length : Int) ≤ 60 := by omega
 go_enter Tryz.func31, Tryz.ntmps31
 go_wp2_with fail
 refine (z_jt ao cap ls _ hl HZ.out (HI.out.later HS0.out)).mono ?_
 rintro e W1 ⟨fa, fb, rfl, hb1, hs⟩
 have HB1 : Hid (Below w.heap.size w W1) := HS0.out.trans (hb1.mono (by simp))
 have HR1 : Hid (FBox W1 w.heap.size 0 0) := (hb1.block w.heap.size (by simp)).trans (heap_alloc_new w _)
 have hw1 : w.heap.size < W1.heap.size := by have := hb1.size; simp at this; omega
 clear hb1
 rcases hs with ⟨hf, hst⟩ | ⟨hf, hn⟩
 ·have HST : Hid (standB ls backL) := hst
  obtain ⟨l0, t, hls, hk1, hw⟩ := z_jW ls hst.1 hst.2.2
  have hl0 : 0 < ls.length := by rw [hls]; simp
  have hlt : ls.length = t.flat.length + 1 := by rw [hls]; simp
  have HLS : Hid (ls = l0 :: t.flat) := hls
  have hg := z_j0 HZ.out hst.2.1
  have hg0 := hg l0 (by rw [hls]; simp)
  have HND : Hid (l0.2.args.Nodup) := hg0.good.once hk1
  have ha3 : l0.2.args.length ≤ 3 := hg0.good.args3
  have HCk : Hid (∀ p, CkIH 60 p ao cap ls) := fun p => z_mZ p ao cap ls hl hcap hl0 hg 60
  have HW : Hid t.wf := hw
  obtain ⟨b, off, rfl, hB, aoA, capA, hcA, q0, q1, q2, q3, q4, hA⟩ := HI.out 0 hl0
  rw [show ls[0] = l0 by simp [hls]] at hcA q3 hA
  have HA : Hid (StrsAt 0 w.heap.size w aoA l0.2.args) := hA.mono (Nat.le_refl _) (Nat.le_refl _)
  rw [show off + 0 * 5 + 3 = off + 3 by omega] at q3
  have k3 := (HB1.out.cell (p := ⟨b, _, none⟩) hB).trans q3
  have HLT : Hid (ls.length = t.flat.length + 1) := hlt
  have htl : t.flat.length ≤ 60 := by omega
  clear hlt
  have hbw : b < W1.heap.size := by omega
  have h0i : (0 : Int) < ls.length := by omega
  have hfb : (fb != 0) = false := by rw [bne, hf]; rfl
  clear q0 q1 q2 q3 q4 hA hls hst hk1 hw hg hg0
  have hbs : z_d7 (W1.heap.size + 1) (some ⟨b, off, none⟩) cap ls 1 (1 + t.flat.length) false l0.2.args (z_al l0.2.args false true t) := HCk.out _ t [] 1 false l0.2.args htl HW.out (by rw [HLS.out]; simp) (.inl rfl) (by omega)
  have HBlk : Hid (z_d7 (W1.heap.size + 1) (some ⟨b, off, none⟩) cap ls 1 (1 + t.flat.length) false l0.2.args (z_al l0.2.args false true t)) := hbs
  clear hbs
  obtain ⟨args, hargs⟩ : ∃ args, args = l0.2.args := ⟨_, rfl⟩
  have HAr : Hid (args = l0.2.args) := hargs
  rw [← hargs] at HBlk HA hcA k3 ha3
  clear hargs
  have key : ∀ (w3 : World) (uo : Option Addr) (uc : Nat), ChkSt w W1 (.slice (some ⟨b, off, none⟩) ls.length cap) args w3 uo → Calls Tryz.prog 67 #[.pointer (some ⟨W1.heap.size + 1, 0, none⟩), .slice uo args.length uc, .bool false] w3 fun e w4 => ∃ (vo : Option Addr) (vn vc : Nat) (y : Bool) (a ln fc : Int), e = .returned (.tuple #[.slice vo vn vc, .bool y]) ∧ Hid (Below w.heap.size w w4) ∧ Hid (FBox w4 w.heap.size 0 0) ∧ Hid (CObj w4 (W1.heap.size + 1) (.slice (some ⟨b, off, none⟩) ls.length cap) a ln fc) ∧ ((fc == 0) = false ∧ Hid (z_bC l0 t = false) ∨ fc = 0 ∧ Hid (z_bC l0 t = !y)) := by
   intro w3 uo uc hs
   refine (HBlk.out w3 uo uc 0 hs.obj ((HI.out.below hs.below).mono (by omega)) hs.strs).mono ?_
   rintro e w4 ⟨hg, hres⟩
   obtain ⟨hb4, hr4⟩ := z_eR (p := W1.heap.size + 1) (by omega) hs.below hs.res hg
   cases hc : z_al args false true t with
   | none =>
    rw [hc] at hres
    obtain ⟨vo, vn, vc, y, a, ln, fc, rfl, ho, hf⟩ := hres
    exact ⟨vo, vn, vc, y, a, ln, fc, rfl, hb4, hr4, ho, .inl ⟨hf, z_kK HND.out (by rw [← HAr.out]; exact hc)⟩⟩
   | some r =>
    obtain ⟨ks, c⟩ := r
    rw [hc] at hres
    obtain ⟨ko, ck, ln, rfl, ho, _⟩ := hres
    exact ⟨ko, _, ck, c, _, ln, 0, rfl, hb4, hr4, ho, .inr ⟨rfl, z_ks HND.out (by rw [← HAr.out]; exact hc)⟩⟩
  have HKey := (show Hid _ from key)
  clear key HBlk
  have hpp : W1.heap.size + 1 ≠ w.heap.size := by omega
  have hb11 : b < W1.heap.size + 1 := by omega
  have hb12 : b < W1.heap.size + 1 + 1 := by omega
  have fin : ∀ (w5 : World) (a ln fc : Int), Below w.heap.size w w5 → ((fc = 0 ∧ z_bC l0 t = true) ∨ (fc ≠ 0 ∧ z_bC l0 t = false)) → ∃ a b : Int, Ending.returned (.agg #[.int .i64 ln, .int .i64 fc]) = .returned (.agg #[.int .i64 a, .int .i64 b]) ∧ Below w.heap.size w ((w5.setCell ⟨w.heap.size, 0, none⟩ (.int .i64 ln)).setCell ⟨w.heap.size, 1, none⟩ (.int .i64 fc)) ∧ z_bV b ls := fun w5 a ln fc hb h => by
   refine ⟨ln, fc, rfl, (hb.setCell (p := ⟨w.heap.size, 0, none⟩) (Nat.le_refl _) _).setCell (p := ⟨w.heap.size, 1, none⟩) (Nat.le_refl _) _, ?_⟩
   rcases h with ⟨h1, h2⟩ | ⟨h1, h2⟩
   ·exact .inl ⟨h1, hl, HST.out, l0, t, HLS.out, HW.out, h2⟩
   ·exact .inr ⟨h1, .inr (.inr ⟨l0, t, HLS.out, HW.out, h2⟩)⟩
  have HFin := (show Hid _ from fin)
  clear fin
  have cases2 : aoA = none ∧ args = [] ∨ ∃ ad, aoA = some ad := by
   cases aoA with
   | some ad => exact .inr ⟨ad, rfl⟩
   | none =>
    refine .inl ⟨rfl, ?_⟩
    rcases args with _ | ⟨x, r⟩
    ·rfl
    ·obtain ⟨_, _, e, _⟩ := HA.out 0 (by simp)
     cases e
  have HBox : Hid (∀ (w4 : World) (a ln fc : Int), CObj w4 (W1.heap.size + 1) (.slice (some ⟨b, off, none⟩) ls.length cap) a ln fc → w4.cell? ⟨W1.heap.size + 1, 1, none⟩ = some (.int .i64 a) ∧ w4.cell? ⟨W1.heap.size + 1, 2, none⟩ = some (.int .i64 ln) ∧ w4.cell? ⟨W1.heap.size + 1, 3, none⟩ = some (.int .i64 fc) ∧ w4.frozen? ⟨W1.heap.size + 1, 1, none⟩ = false) := fun w4 a ln fc h => ⟨h.c1, h.c2, h.c3, h.fz 1⟩
  rcases cases2 with ⟨rfl, ha0⟩ | ⟨ad, rfl⟩
  ·have HA0 : Hid (args = []) := ha0
   have hal : args.length = 0 := by rw [ha0]; rfl
   rw [hal] at k3
   have HC0 : Hid (ChkSt w W1 (.slice (some ⟨b, off, none⟩) ls.length cap) args (((W1.alloc (.cells #[.int .i64 fa, .int .i64 fb] 43)).alloc (.cells #[.slice (some ⟨b, off, none⟩) ls.length cap, .int .i64 1, .int .i64 0, .int .i64 0] 102)).alloc (.cells #[] 9)) (some ⟨W1.heap.size + 1 + 1, 0, none⟩)) := by
    show ChkSt _ _ _ _ _ _
    rw [ha0]; exact z_km HB1.out HR1.out
   have HAL : Hid (args.length = 0) := hal
   clear ha0 hal
   go_wp2_with fail
   have hcall := HKey.out _ _ 0 HC0.out
   rw [HAL.out] at hcall
   refine hcall.mono ?_
   rintro e w4 ⟨vo, vn, vc, y, a, ln, fc, rfl, HB4, HR4, HC4, hres⟩
   have hw4 : w.heap.size < w4.heap.size := HR4.out.lt
   have hp4 : W1.heap.size + 1 < w4.heap.size := HC4.out.lt
   obtain ⟨p1, p2, p3, pf⟩ := HBox.out _ _ _ _ HC4.out
   obtain ⟨r0, r1, fr⟩ := HR4.out.cells
   rcases hres with ⟨hf4, HN⟩ | ⟨rfl, HN⟩
   ·have hf5 : fc ≠ 0 := by simpa using hf4
    go_wp2
    refine bodyPost_ret (v := .agg #[.int .i64 ln, .int .i64 fc]) (by simp [results, Tryz.results31, go_sem, r0, r1]) rfl ?_
    exact HFin.out _ a ln fc HB4.out (.inr ⟨hf5, HN.out⟩)
   ·cases y with
    | false =>
     go_wp2
     refine bodyPost_ret (v := .agg #[.int .i64 ln, .int .i64 0]) (by simp [results, Tryz.results31, go_sem, r0, r1]) rfl ?_
     exact HFin.out _ a ln 0 HB4.out (.inl ⟨rfl, HN.out⟩)
    | true =>
     have e1 : Hid ((t.flat.length : Int) = (ls.length : Int) - 1) := by show _ = _; rw [HLT.out]; omega
     have HCx : Hid (CObj (w4.setCell ⟨W1.heap.size + 1, 1, none⟩ (.int .i64 ((ls.length : Int) - 1))) (W1.heap.size + 1) (.slice (some ⟨b, off, none⟩) ls.length cap) (t.flat.length : Nat) ln 0) := by
      have h := HC4.out.at ((ls.length : Int) - 1)
      rw [← e1.out] at h ⊢; exact h
     have HBx : Hid (Below w.heap.size w (w4.setCell ⟨W1.heap.size + 1, 1, none⟩ (.int .i64 ((ls.length : Int) - 1)))) := HB4.out.setCell (p := ⟨W1.heap.size + 1, 1, none⟩) (by show w.heap.size ≤ W1.heap.size + 1; omega) _
     have HRx : Hid (FBox (w4.setCell ⟨W1.heap.size + 1, 1, none⟩ (.int .i64 ((ls.length : Int) - 1))) w.heap.size 0 0) := (Below.heap_setCell w4 ⟨W1.heap.size + 1, 1, none⟩ _ w.heap.size (fun e => by have : w.heap.size = W1.heap.size + 1 := e; omega)).trans HR4.out
     go_wp2_with (go_at_call 68; refine (z_cl _ _ t.flat.length ln 6 _ HCx.out (by omega)).mono ?_; rintro e w5 ⟨rfl, hc5, hg5⟩; obtain ⟨hb5, hr5⟩ := z_eR (p := W1.heap.size + 1) (by omega) HBx.out HRx.out hg5; have HB5 : Hid (Below w.heap.size w w5) := hb5; have HC5 : Hid (CObj w5 _ _ _ _ _) := hc5; obtain ⟨s0, s1, fs⟩ := hr5.cells; obtain ⟨u1, u2, u3, uf⟩ := HBox.out _ _ _ _ hc5; clear hb5 hc5 hg5 hr5 p1 p2 p3 pf r0 r1)
     refine bodyPost_ret (v := .agg #[.int .i64 ((t.flat.length : Int) + 1), .int .i64 6]) (by simp [results, Tryz.results31, go_sem, s0, s1]) rfl ?_
     exact HFin.out _ 0 _ 6 HB5.out (.inr ⟨by decide, HN.out⟩)
  ·have hcells : ∀ j u, (strCells args)[j]? = some u → (((W1.alloc (.cells #[.int .i64 fa, .int .i64 fb] 43)).alloc (.cells #[.slice (some ⟨b, off, none⟩) ls.length cap, .int .i64 1, .int .i64 0, .int .i64 0] 102)).alloc (.cells #[] 9)).cell? (ad.add j) = some u := by
    rcases args with _ | ⟨x, r⟩
    ·intro j u hj; simp [strCells] at hj
    ·obtain ⟨b', o', e, _⟩ := HA.out 0 (by simp)
     cases e
     exact z_b0 (HA.out.later (HB1.out.trans (((z_ab _ _ _).alloc (by simp; omega) _).mono HB1.out.size)))
   have HC := (show Hid _ from hcells)
   have HM : Hid ((((W1.alloc (.cells #[.int .i64 fa, .int .i64 fb] 43)).alloc (.cells #[.slice (some ⟨b, off, none⟩) ls.length cap, .int .i64 1, .int .i64 0, .int .i64 0] 102)).alloc (.cells #[] 9)).ownsRow (W1.heap.size + 1 + 1) 9 1 (.slice (some ⟨W1.heap.size + 1 + 1, 0, none⟩) 0 0) 0 []) := z_ln _ _ _ _
   clear hcells
   go_wp2_with (at_builtin; go_loud (refine wpList_append_own _ rfl _ _ 45 rfl (W1.heap.size + 1 + 1) 9 i0 (.string ByteArray.empty) 1 16 Tryz.underlying45 hi0 hz0 hz1 hz2 rfl (by decide) _ _ _ rfl HM.out ad args.length _ (strCells args) rfl (by simp [strCells]) HC.out (by intro u hu; simp [strCells] at hu; obtain ⟨a, _, rfl⟩ := hu; rfl) (by unfold maxLen; omega) (by omega) (by simp) ?_; intro v' w3 hown hgrow _; rw [Nat.zero_add, List.nil_append] at hown; obtain ⟨uo, uc, rfl, huc⟩ := z_aq hown; have HC0 : Hid (ChkSt w W1 _ args w3 uo) := z_nf HB1.out HR1.out hown hgrow; clear hown hgrow))
   refine (HKey.out _ _ uc HC0.out).mono ?_
   rintro e w4 ⟨vo, vn, vc, y, a, ln, fc, rfl, HB4, HR4, HC4, hres⟩
   have hw4 : w.heap.size < w4.heap.size := HR4.out.lt
   have hp4 : W1.heap.size + 1 < w4.heap.size := HC4.out.lt
   obtain ⟨p1, p2, p3, pf⟩ := HBox.out _ _ _ _ HC4.out
   obtain ⟨r0, r1, fr⟩ := HR4.out.cells
   rcases hres with ⟨hf4, HN⟩ | ⟨rfl, HN⟩
   ·have hf5 : fc ≠ 0 := by simpa using hf4
    go_wp2
    refine bodyPost_ret (v := .agg #[.int .i64 ln, .int .i64 fc]) (by simp [results, Tryz.results31, go_sem, r0, r1]) rfl ?_
    exact HFin.out _ a ln fc HB4.out (.inr ⟨hf5, HN.out⟩)
   ·cases y with
    | false =>
     go_wp2
     refine bodyPost_ret (v := .agg #[.int .i64 ln, .int .i64 0]) (by simp [results, Tryz.results31, go_sem, r0, r1]) rfl ?_
     exact HFin.out _ a ln 0 HB4.out (.inl ⟨rfl, HN.out⟩)
    | true =>
     have e1 : Hid ((t.flat.length : Int) = (ls.length : Int) - 1) := by show _ = _; rw [HLT.out]; omega
     have HCx : Hid (CObj (w4.setCell ⟨W1.heap.size + 1, 1, none⟩ (.int .i64 ((ls.length : Int) - 1))) (W1.heap.size + 1) (.slice (some ⟨b, off, none⟩) ls.length cap) (t.flat.length : Nat) ln 0) := by
      have h := HC4.out.at ((ls.length : Int) - 1)
      rw [← e1.out] at h ⊢; exact h
     have HBx : Hid (Below w.heap.size w (w4.setCell ⟨W1.heap.size + 1, 1, none⟩ (.int .i64 ((ls.length : Int) - 1)))) := HB4.out.setCell (p := ⟨W1.heap.size + 1, 1, none⟩) (by show w.heap.size ≤ W1.heap.size + 1; omega) _
     have HRx : Hid (FBox (w4.setCell ⟨W1.heap.size + 1, 1, none⟩ (.int .i64 ((ls.length : Int) - 1))) w.heap.size 0 0) := (Below.heap_setCell w4 ⟨W1.heap.size + 1, 1, none⟩ _ w.heap.size (fun e => by have : w.heap.size = W1.heap.size + 1 := e; omega)).trans HR4.out
     go_wp2_with (go_at_call 68; refine (z_cl _ _ t.flat.length ln 6 _ HCx.out (by omega)).mono ?_; rintro e w5 ⟨rfl, hc5, hg5⟩; obtain ⟨hb5, hr5⟩ := z_eR (p := W1.heap.size + 1) (by omega) HBx.out HRx.out hg5; have HB5 : Hid (Below w.heap.size w w5) := hb5; have HC5 : Hid (CObj w5 _ _ _ _ _) := hc5; obtain ⟨s0, s1, fs⟩ := hr5.cells; obtain ⟨u1, u2, u3, uf⟩ := HBox.out _ _ _ _ hc5; clear hb5 hc5 hg5 hr5 p1 p2 p3 pf r0 r1)
     refine bodyPost_ret (v := .agg #[.int .i64 ((t.flat.length : Int) + 1), .int .i64 6]) (by simp [results, Tryz.results31, go_sem, s0, s1]) rfl ?_
     exact HFin.out _ 0 _ 6 HB5.out (.inr ⟨by decide, HN.out⟩)
 ·have HN : Hid (¬ standB ls backL) := hn
  have hfb : (fb != 0) = true := by rw [bne, hf]; rfl
  have hf0 : fb ≠ 0 := by simpa using hf
  obtain ⟨r0, r1, fr⟩ := HR1.out.cells
  clear hn
  go_wp2
  refine bodyPost_ret (v := .agg #[.int .i64 fa, .int .i64 fb]) (by simp [results, Tryz.results31, go_sem, r0, r1, hw1]) rfl ?_
  exact ⟨_, _, rfl, ((HB1.out.setCell (p := ⟨w.heap.size, 0, none⟩) (Nat.le_refl _) _).setCell (p := ⟨w.heap.size, 1, none⟩) (Nat.le_refl _) _).alloc (by simp [World.setCell]; omega) _, .inr ⟨hf0, .inr (.inl HN.out)⟩⟩
theorem z_fW (ao : Option Addr) (cap : Nat) (ls : List Ln) (w : World) (hcap : ls.length ≤ cap) (hl : ls.length ≤ 1048576) (hi : LinesAt w.heap.size w ao ls) (hz : ∀ l ∈ ls, LnSz l) :
  Calls Tryz.prog 31 #[.slice ao ls.length cap] w fun e w' => ∃ a b : Int, e = .returned (.agg #[.int .i64 a, .int .i64 b]) ∧ Below w.heap.size w w' ∧ z_bV b ls := by
 by_cases h : 60 < ls.length
 ·exact z_fk ao cap ls w hcap h hl
 ·exact z_fm ao cap ls w hcap (by omega) hi hz
end
section
open Go.RowKit
theorem z_dP {w : World} {ops : Array Oper} {o : Oper} {a : Act} {K : Act → World → Prop} {Q : Exit → Act → World → Prop} {E : Prop} (hgd : o.guard = none) (s x : Operand)
  (ho : o.op = .call { callee := .builtin .append, args := #[s, x], argTypes := #[45, 45] })
  (base : Nat) (hs : a.eval s = .slice (some ⟨base, 0, none⟩) 0 0) (hown : w.ownsRow base 9 1 (.slice (some ⟨base, 0, none⟩) 0 0) 0 [])
  (xo : Option Addr) (c : Nat) (args : List ByteArray) (hx : a.eval x = .slice xo args.length c) (hst : StrsAt 0 w.heap.size w xo args) (hl : args.length ≤ 1000)
  (h : ∀ uo uc w', w'.ownsRow base 9 1 (.slice uo args.length uc) args.length (strCells args) → w.grownBy w' (Value.slice (some ⟨base, 0, none⟩) 0 0).ownBlock → K (a.put o.dst (.slice uo args.length uc)) w') :
  if Region.wanted o (yielded ops a.tmps) = true then Oper.wp Tryz.prog o a w K Q else E := by
 have hw : Region.wanted o (yielded ops a.tmps) = true := by simp [Region.wanted, hgd]
 rw [if_pos hw]
 obtain ⟨i0, hi0, hz0, hz1, hz2⟩ := info_parts Tryz.infoStr
 cases xo with
 | some ad =>
  have hcells : ∀ j u, (strCells args)[j]? = some u → w.cell? (ad.add j) = some u := by
   rcases args with _ | ⟨y, r⟩
   ·intro j u hj; simp [strCells] at hj
   ·obtain ⟨b', o', e, _⟩ := hst 0 (by simp)
    cases e
    exact z_b0 hst
  refine wp_append_own w s x 45 ho base 9 i0 (.string ByteArray.empty) 1 16 Tryz.underlying45 hi0 hz0 hz1 hz2 rfl (by decide) _ 0 [] hs hown ad args.length c (strCells args) hx (by simp [strCells]) hcells (by intro u hu; simp [strCells] at hu; obtain ⟨a, _, rfl⟩ := hu; rfl) (by unfold maxLen; omega) (by omega) ?_ ?_
  ·have := (hown.lt base rfl).2; omega
  ·intro v' w' ho' hg' _
   rw [Nat.zero_add, List.nil_append] at ho'
   obtain ⟨uo, uc, rfl, _⟩ := z_aq ho'
   exact h uo uc w' ho' hg'
 | none =>
  have e : args = [] := by
   rcases args with _ | ⟨y, r⟩
   ·rfl
   ·obtain ⟨_, _, e, _⟩ := hst 0 (by simp)
    cases e
  subst e
  have hk := h (some ⟨base, 0, none⟩) 0 w hown z_bW
  unfold Oper.wp execOp
  simp only [ho, resolve, invoke, builtin, Sem.run_bind, Sem.run_pure, Result.andThen_ok, List.map_toArray, List.map_cons, List.map_nil, hs, hx]
  simp [go_sem]
  exact hk
section
variable {q base : Nat} {lo : Option Addr} {cap : Nat} {ls : List Ln} {w w' : World} {at_ : Nat} {v : Value} {ps : List (Stp × Value)}
theorem z_nR (h : SkSt q base lo cap ls w at_ v ps) (hn : 0 < ps.length) : ∃ g vc, v = .slice (some ⟨g, 0, none⟩) ps.length vc ∧ ps.length ≤ vc ∧ (∀ j, w.frozen? ⟨g, j, none⟩ = false) ∧ base ≤ g ∧ g < w.heap.size := by
 obtain ⟨g, vc, rfl, hle⟩ := z_i8 h.own hn
 exact ⟨g, vc, rfl, hle, fun j => h.own.row.frozenAt j, (h.row_lt rfl).1, (h.row_lt rfl).2⟩
theorem z_ls {g vc i : Nat} (h : SkSt q base lo cap ls w at_ (.slice (some ⟨g, 0, none⟩) ps.length vc) ps) (hi : i < ps.length) (j : Nat) (hj : j < 7) : ∃ u, w.cell? ⟨g, i * 7 + j, none⟩ = some u := by
 have hlt : i * 7 + j < ps.length * 7 := by omega
 have h1 := h.own.row.cellAt _ hlt
 have hlen : ∀ l : List (Stp × Value), (l.flatMap stF').length = l.length * 7 := fun l => by
  induction l with
  | nil => rfl
  | cons a r ih => rw [List.flatMap_cons, List.length_append, ih, z_hw, List.length_cons]; omega
 have h2 : i * 7 + j < (ps.flatMap stF').length := by rw [hlen]; exact hlt
 exact ⟨_, h1.trans (List.getElem?_eq_getElem h2)⟩
theorem z_di {W w3 : World} (hg : ((W.alloc (.cells #[] 9)).drew).grownBy w3 (Value.slice (some ⟨W.heap.size, 0, none⟩) 0 0).ownBlock) : Below W.heap.size W w3 :=
 (((Below.refl _ _).alloc (Nat.le_refl _) _).drew).grown hg (by simp) (fun j hj => by simp [Value.ownBlock] at hj; omega)
theorem z_gx {g vc : Nat} {x : Stp × Value} (h : SkSt q base lo cap ls w at_ (.slice (some ⟨g, 0, none⟩) (ps.length + 1) vc) (ps ++ [x])) (j : Nat) (hj : j < 7) : (∃ u, w.cell? ⟨g, ps.length * 7 + j, none⟩ = some u) ∧ w.frozen? ⟨g, ps.length * 7 + j, none⟩ = false := by
 have e : ps.length + 1 = (ps ++ [x]).length := by simp
 rw [e] at h
 exact ⟨z_ls h (by simp) j hj, h.own.row.frozenAt _⟩
theorem z_eO {x : Stp × Value} {qs : List (Stp × Value)} (h : SkSt q base lo cap ls w at_ v (ps ++ x :: qs)) (n : Nat) (hn : (ps ++ x :: qs).length = n) (j : Nat) (hj : j < 7) : ∃ g vc, v = .slice (some ⟨g, 0, none⟩) n vc ∧ n ≤ vc ∧ ps.length < n ∧ q ≠ g ∧ (∃ u, w.cell? ⟨g, ps.length * 7 + j, none⟩ = some u) ∧ w.frozen? ⟨g, ps.length * 7 + j, none⟩ = false := by
 subst hn
 have hb := h.qb
 obtain ⟨g, vc, rfl, hle, hf, h1, h2⟩ := z_nR h (by simp; omega)
 exact ⟨g, vc, rfl, hle, by simp, by omega, z_ls h (by simp) j hj, hf _⟩
end
end
section
open Go.RowKit
theorem z_gR (q base : Nat) (lo : Option Addr) (cap : Nat) (ls : List Ln) (at_ at2 at3 N NI : Nat) (k2 : Int) (f f2 : Nat → List Stp) (kd : Int) (dd : Bd) (hk : kd = 6 ∨ kd = 14) (hto : dd.to = eS) (hud : dd.undo = eS) (hargs : dd.args.length ≤ 1000) (hN : N ≤ 500) (hNI : N + 1 ≤ NI) (hNI2 : NI ≤ 100000) (m : Nat) (hm : m ≤ 400) (hfl : ∀ n, (f n).length ≤ m) (hfl2 : ∀ n, (f2 n).length ≤ 1000)
  (H : SkBlk q base lo cap ls at_ at2 NI 7 f) (H2 : SkBlk q base lo cap ls at2 at3 (NI + m + 1) k2 f2) :
  SkInn q base lo cap ls 105 at_ at3 N (kd, dd) (fun n => z_as (kd, dd) ((n + 1 : Nat) : Int) ((n + 2 + (f (n + 1)).length : Nat) : Int) :: (f (n + 1) ++ z_ap 7 ((n + 2 + (f (n + 1)).length + (f2 (n + 2 + (f (n + 1)).length)).length : Nat) : Int) :: f2 (n + 2 + (f (n + 1)).length))) := by
 intro w v ps ao c hs ha hps
 show Calls Tryz.prog 105 #[.pointer (some ⟨q, 0, none⟩), .agg #[.int .i64 kd, .string dd.to, .string dd.name, .slice ao dd.args.length c, .string dd.undo]] w _
 have HH : Hid (SkBlk q base lo cap ls at_ at2 NI 7 f) := H
 have HH2 : Hid (SkBlk q base lo cap ls at2 at3 (NI + m + 1) k2 f2) := H2
 have HFL : Hid (∀ n, (f n).length ≤ m) := hfl
 have HFL2 : Hid (∀ n, (f2 n).length ≤ 1000) := hfl2
 have HST : Hid (∀ a b, (⟨z_cg kd, ⟨#[]⟩, dd.name, dd.args, ⟨#[]⟩, a, b⟩ : Stp) = z_as (kd, dd) a b) := fun a b => by
  show _ = (⟨z_cg kd, dd.to, dd.name, dd.args, dd.undo, a, b⟩ : Stp)
  rw [hto, hud]; rfl
 obtain ⟨W1, hW1⟩ : ∃ W1, W1 = w.alloc (.cells #[.int .i64 kd, .string dd.to, .string dd.name, .slice ao dd.args.length c, .string dd.undo] 49) := ⟨_, rfl⟩
 have hb1 : Below w.heap.size w W1 := by rw [hW1]; exact (Below.refl _ _).alloc (Nat.le_refl _) _
 have HX1 : LBox W1 w.heap.size (kd, dd) ao c := by rw [hW1]; exact heap_alloc_new w _
 have hsz1 : W1.heap.size = w.heap.size + 1 := by rw [hW1]; simp
 have HW1 : Hid (w.alloc (.cells #[.int .i64 kd, .string dd.to, .string dd.name, .slice ao dd.args.length c, .string dd.undo] 49) = W1) := hW1.symm
 have HS1 : Hid (SkSt q base lo cap ls W1 at_ v ps) := hs.below hb1
 have HA1 : Hid (StrsAt 0 W1.heap.size W1 ao dd.args) := (ha.mono (Nat.le_refl _) (Nat.le_of_lt hs.lt)).later hb1
 have HK1 : Hid (Wk q v.ownBlock w W1) := Wk.of_below hb1
 obtain ⟨x0, x1, x2, x3, x4⟩ := HX1.cells
 have hlt1 : w.heap.size < W1.heap.size := by omega
 have hps5 : ps.length ≤ 500 := by omega
 have hpsN : ps.length ≤ N := hps
 clear hs ha H H2 hfl hfl2 hW1 hb1 hto hud hps hsz1
 have hc14 : ((kd == 14) = false ∧ Hid (z_cg kd = 5)) ∨ ((kd == 14) = true ∧ Hid (z_cg kd = 6)) := by
  rcases hk with h | h <;> rw [h]
  ·exact .inl ⟨rfl, rfl⟩
  ·exact .inr ⟨rfl, rfl⟩
 clear hk
 rcases hc14 with ⟨h14, HCK⟩ | ⟨h14, HCK⟩
 all_goals
  go_enter Tryz.func105, Tryz.ntmps105
  go_wp2_with fail
  rw [HW1.out]
  go_region_held3 (fun wz => wz.cell? ⟨w.heap.size, 0, none⟩ = some (.int .i64 kd) ∧ wz.cell? ⟨w.heap.size, 1, none⟩ = some (.string dd.to) ∧ wz.cell? ⟨w.heap.size, 2, none⟩ = some (.string dd.name) ∧ wz.cell? ⟨w.heap.size, 3, none⟩ = some (.slice ao dd.args.length c) ∧ wz.cell? ⟨w.heap.size, 4, none⟩ = some (.string dd.undo))
   (first | (go_keep; done) | exact HY2.out | exact HY3.out)
   (first
    | (refine z_dP rfl _ _ rfl W1.heap.size rfl (z_dY W1) _ _ dd.args rfl (HA1.out.later ((Below.refl _ _).alloc (Nat.le_refl _) _).drew) (by omega) ?_; intro uo uc W2 hu2 hg2; obtain ⟨HS2, HY2, HK2, HX2, HU2, HAp2, hsz2⟩ := z_hG HS1.out HX1 (z_di hg2) hu2; clear hu2 hg2)
    | (go_at_call 70; refine (z_cP q base lo cap ls at_ v ps ⟨_, ⟨#[]⟩, dd.name, dd.args, ⟨#[]⟩, 0, 0⟩ uo uc _ HS2.out (by omega) HU2.out HAp2.out).mono ?_; rintro e W3 ⟨rfl, g3, vc3, h3, hk3, hr3⟩; obtain ⟨HS3, HY3, HK3, HX3⟩ := z_jS HK1.out HK2.out HS2.out HX2.out h3 hk3 hr3; clear h3 hk3 hr3))
  all_goals
   obtain ⟨⟨u5, hu5⟩, hf5⟩ := z_gx HS3.out 5 (by decide)
   have c2 := HS3.out.c2
   have fq := HS3.out.fz 2
   have hq3 := HS3.out.lt
   obtain ⟨y0, y1, y2, y3, y4⟩ := HX3.out.cells
   have hi0 : (0 : Int) ≤ ps.length := by omega
   have hi1 : (ps.length : Int) < (ps.length : Int) + 1 := by omega
   obtain ⟨h4, hk4⟩ := z_ff HS3.out 5 (by decide) (.int .i64 ((ps.length + 1 : Nat) : Int)) (setA (z_as (kd, dd) 0 0) ((ps.length + 1 : Nat) : Int)) (by rw [← HST.out, HCK.out]; rfl) (by rw [← HST.out, HCK.out]; rfl)
   rw [show ((ps.length + 1 : Nat) : Int) = (ps.length : Int) + 1 by omega] at h4 hk4
   have HS4 : Hid (SkSt q base lo cap ls _ at_ _ _) := h4
   have HK4 : Hid (Wk q v.ownBlock w _ ∧ RowTo w v (.slice (some ⟨g3, 0, none⟩) (ps.length + 1) vc3)) := ⟨HK3.out.1.trans hk4 HK3.out.2.or, HK3.out.2⟩
   clear h4 hk4 HS2 HY2 HK2 HX2 HU2 HAp2 hsz2 HY3
   go_wp2_with fail
   refine (HH.out _ _ _ HS4.out (by simp; omega)).mono ?_
   rintro e W5 ⟨rfl, v5, rs, hrs, h5, hk5, hr5⟩
   have hn4 : (ps ++ [(setA (z_as (kd, dd) 0 0) ((ps.length : Int) + 1), Value.slice uo dd.args.length uc)]).length = ps.length + 1 := by simp
   rw [hn4] at hrs
   have HRS : Hid (rs.map (·.1) = f (ps.length + 1)) := hrs
   have hrl : rs.length = (f (ps.length + 1)).length := by rw [← hrs]; simp
   have HRL : Hid (rs.length = (f (ps.length + 1)).length) := hrl
   have hrl2 : rs.length ≤ m := by rw [hrl]; exact HFL.out _
   obtain ⟨n5, hn5⟩ : ∃ n5, n5 = ps.length + 1 + rs.length := ⟨_, rfl⟩
   have HN5 : Hid (n5 = ps.length + 1 + rs.length) := hn5
   have e5 : (ps ++ [(setA (z_as (kd, dd) 0 0) ((ps.length : Int) + 1), Value.slice uo dd.args.length uc)]) ++ rs = ps ++ (setA (z_as (kd, dd) 0 0) ((ps.length : Int) + 1), Value.slice uo dd.args.length uc) :: rs := by simp
   rw [e5] at h5
   have HK5 : Hid (Wk q v.ownBlock w W5 ∧ RowTo w v v5) := ⟨HK4.out.1.trans hk5 HK4.out.2.or, HK4.out.2.trans hr5 HK4.out.1.size⟩
   have HS5 : Hid (SkSt q base lo cap ls W5 at2 v5 (ps ++ (setA (z_as (kd, dd) 0 0) ((ps.length : Int) + 1), Value.slice uo dd.args.length uc) :: rs)) := h5
   have hn5b : n5 ≤ 2000 := by omega
   have hpl : ps.length < n5 := by omega
   have HNL : Hid ((ps ++ (setA (z_as (kd, dd) 0 0) ((ps.length : Int) + 1), Value.slice uo dd.args.length uc) :: rs).length = n5) := by show _ = _; have := HN5.out; simp; omega
   have hq5 := h5.lt
   have hqb := h5.qb
   clear h5 hk5 hr5 hrs hrl hn5 e5 hn4 u5 hu5 hf5 c2 fq hq3 HS4 HK4 HX3 HS3 HK3 y0 y1 y2 y3 y4 x0 x1 x2 x3 x4 HX1 HW1
   go_wp2_with fail
   refine (z_cP q base lo cap ls at2 v5 _ ⟨7, ⟨#[]⟩, ⟨#[]⟩, [], ⟨#[]⟩, 0, 0⟩ none 0 _ HS5.out (by rw [HNL.out]; omega) (World.ownsRow_nil _ _ _ _) (fun x hx k hk => by simp [Value.ownBlock])).mono ?_
   rintro e W6 ⟨rfl, g6, vc6, h6, hk6, hr6⟩
   rw [HNL.out] at h6 hr6 ⊢
   have e6 : (ps ++ (setA (z_as (kd, dd) 0 0) ((ps.length : Int) + 1), Value.slice uo dd.args.length uc) :: rs) ++ [((⟨7, ⟨#[]⟩, ⟨#[]⟩, [], ⟨#[]⟩, 0, 0⟩ : Stp), Value.slice none 0 0)] = ps ++ (setA (z_as (kd, dd) 0 0) ((ps.length : Int) + 1), Value.slice uo dd.args.length uc) :: (rs ++ [((⟨7, ⟨#[]⟩, ⟨#[]⟩, [], ⟨#[]⟩, 0, 0⟩ : Stp), Value.slice none 0 0)]) := by simp
   replace h6 : SkSt q base lo cap ls W6 at2 (.slice (some ⟨g6, 0, none⟩) (n5 + 1) vc6) ((ps ++ (setA (z_as (kd, dd) 0 0) ((ps.length : Int) + 1), Value.slice uo dd.args.length uc) :: rs) ++ [((⟨7, ⟨#[]⟩, ⟨#[]⟩, [], ⟨#[]⟩, 0, 0⟩ : Stp), Value.slice none 0 0)]) := h6
   rw [e6] at h6
   have HK6 : Hid (Wk q v.ownBlock w W6 ∧ RowTo w v (.slice (some ⟨g6, 0, none⟩) (n5 + 1) vc6)) := ⟨HK5.out.1.trans hk6 HK5.out.2.or, HK5.out.2.trans hr6 HK5.out.1.size⟩
   obtain ⟨_, _, ee, hle6, hlt6, hqg6, ⟨u6, hu6⟩, hf6⟩ := z_eO h6 (n5 + 1) (by have := HN5.out; simp; omega) 6 (by decide)
   cases ee
   obtain ⟨h7, hk7⟩ := z_ff h6 6 (by decide) (.int .i64 ((n5 : Int) + 1)) (setB (setA (z_as (kd, dd) 0 0) ((ps.length : Int) + 1)) ((n5 : Int) + 1)) rfl rfl
   have HS7 : Hid (SkSt q base lo cap ls _ at2 _ _) := h7
   have HK7 : Hid (Wk q v.ownBlock w _ ∧ RowTo w v (.slice (some ⟨g6, 0, none⟩) (n5 + 1) vc6)) := ⟨HK6.out.1.trans hk7 HK6.out.2.or, HK6.out.2⟩
   have d2 := h6.c2
   have hq6 := h6.lt
   have hj1 : (ps.length : Int) < (n5 : Int) + 1 := by omega
   clear h7 hk7 h6 hk6 hr6 e6 HS5 HK5
   go_wp2_with fail
   have hn7 : (ps ++ (setB (setA (z_as (kd, dd) 0 0) ((ps.length : Int) + 1)) ((n5 : Int) + 1), Value.slice uo dd.args.length uc) :: (rs ++ [((⟨7, ⟨#[]⟩, ⟨#[]⟩, [], ⟨#[]⟩, 0, 0⟩ : Stp), Value.slice none 0 0)])).length = n5 + 1 := by have := HN5.out; simp; omega
   refine (HH2.out _ _ _ HS7.out (by rw [hn7]; have := HN5.out; omega)).mono ?_
   rintro e W8 ⟨rfl, v8, rs2, hrs2, h8, hk8, hr8⟩
   rw [hn7] at hrs2
   have HRS2 : Hid (rs2.map (·.1) = f2 (n5 + 1)) := hrs2
   have hrl2b : rs2.length = (f2 (n5 + 1)).length := by rw [← hrs2]; simp
   have HRL2 : Hid (rs2.length = (f2 (n5 + 1)).length) := hrl2b
   have hrl3 : rs2.length ≤ 1000 := by rw [hrl2b]; exact HFL2.out _
   obtain ⟨n8, hn8⟩ : ∃ n8, n8 = n5 + 1 + rs2.length := ⟨_, rfl⟩
   have HN8 : Hid (n8 = n5 + 1 + rs2.length) := hn8
   have e8 : (ps ++ (setB (setA (z_as (kd, dd) 0 0) ((ps.length : Int) + 1)) ((n5 : Int) + 1), Value.slice uo dd.args.length uc) :: (rs ++ [((⟨7, ⟨#[]⟩, ⟨#[]⟩, [], ⟨#[]⟩, 0, 0⟩ : Stp), Value.slice none 0 0)])) ++ rs2 = (ps ++ (setB (setA (z_as (kd, dd) 0 0) ((ps.length : Int) + 1)) ((n5 : Int) + 1), Value.slice uo dd.args.length uc) :: rs) ++ ((⟨7, ⟨#[]⟩, ⟨#[]⟩, [], ⟨#[]⟩, 0, 0⟩ : Stp), Value.slice none 0 0) :: rs2 := by simp
   rw [e8] at h8
   have HK8 : Hid (Wk q v.ownBlock w W8 ∧ RowTo w v v8) := ⟨HK7.out.1.trans hk8 HK7.out.2.or, HK7.out.2.trans hr8 HK7.out.1.size⟩
   have hnl : (ps ++ (setB (setA (z_as (kd, dd) 0 0) ((ps.length : Int) + 1)) ((n5 : Int) + 1), Value.slice uo dd.args.length uc) :: rs).length = n5 := by have := HN5.out; simp; omega
   obtain ⟨g8, vc8, rfl, hle8, hlt8, hqg8, ⟨u8, hu8⟩, hf8⟩ := z_eO h8 n8 (by have := HN8.out; have := HN5.out; simp; omega) 5 (by decide)
   obtain ⟨h9, hk9⟩ := z_ff h8 5 (by decide) (.int .i64 (n8 : Int)) (z_ap 7 (n8 : Int)) rfl rfl
   rw [hnl] at hu8 hf8 h9 hk9 hlt8
   have HE : Hid (SkSt q base lo cap ls _ at3 _ _) := h9
   have HK9 : Hid (Wk q v.ownBlock w _) := HK8.out.1.trans hk9 HK8.out.2.or
   have d8 := h8.c2
   have hq8 := h8.lt
   have hj8 : (n5 : Int) < n8 := by omega
   have hj9 : (0 : Int) ≤ n5 := by omega
   have hn8b : n8 ≤ 5000 := by omega
   clear h9 hk9 h8 hk8 hr8 hrs2 hrl2b hn8 e8 hn7 hu6 hf6 d2 hq6 hnl HS7 HK7 HK6
   go_wp2_with fail
   go_region
   all_goals
    go_wp2_with fail
    first | go_end0 | go_ret2 | go_ret
    refine ⟨rfl, _, (setB (setA (z_as (kd, dd) 0 0) ((ps.length : Int) + 1)) ((n5 : Int) + 1), Value.slice uo dd.args.length uc) :: (rs ++ (z_ap 7 (n8 : Int), Value.slice none 0 0) :: rs2), ?_, ?_, HK9.out.trans (Wk.of_below (Below.refl _ _).drew) HK8.out.2.or, HK8.out.2⟩
    ·have e1 : n5 + 1 = ps.length + 2 + (f (ps.length + 1)).length := by have := HN5.out; have := HRL.out; omega
     have e2 : n8 = ps.length + 2 + (f (ps.length + 1)).length + (f2 (ps.length + 2 + (f (ps.length + 1)).length)).length := by rw [← e1, HN8.out, HRL2.out]
     rw [List.map_cons, List.map_append, HRS.out, List.map_cons, HRS2.out, ← e2, ← e1]; rfl
    ·have h := HE.out.below (Below.refl _ _).drew
     simpa using h
end
end Go.Proofs.YtlbjjbolbopfmaaGreatDoor
