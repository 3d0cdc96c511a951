import Derived.Test.YtlbjjbolbopfmaaGreatDoorH34
import Derived.Deep.RegionHeld3
import Derived.Test.YtlbjjbolbopfmaaGreatDoorH32
import Derived.Test.YtlbjjbolbopfmaaGreatDoorH17
import Derived.Test.YtlbjjbolbopfmaaGreatDoorH30
import Derived.Test.YtlbjjbolbopfmaaGreatDoorH28
import Derived.Test.YtlbjjbolbopfmaaGreatDoorH22
import Derived.Test.YtlbjjbolbopfmaaGreatDoorH21
import Derived.Test.YtlbjjbolbopfmaaGreatDoorH20
import Derived.Maps.AppendAt
namespace Go.Proofs.YtlbjjbolbopfmaaGreatDoor
set_option maxHeartbeats 4000000
set_option maxRecDepth 1000000
set_option linter.unusedVariables false
section
open Go.RowKit
section
variable {q base : Nat} {lo : Option Addr} {cap : Nat} {ls : List Ln} {w w' : World} {at_ : Nat} {v : Value} {ps : List (Stp × Value)}
end
def SkInn (q base : Nat) (lo : Option Addr) (cap : Nat) (ls : List Ln) (F at_ at2 N : Nat) (l : Ln) (f : Nat → List Stp) : Prop :=
 ∀ (w : World) (v : Value) (ps : List (Stp × Value)) (ao : Option Addr) (c : Nat), SkSt q base lo cap ls w at_ v ps → StrsAt 0 q w ao l.2.args → ps.length ≤ N → Calls Tryz.prog F #[.pointer (some ⟨q, 0, none⟩), .agg #[.int .i64 l.1, .string l.2.to, .string l.2.name, .slice ao l.2.args.length c, .string l.2.undo]] w fun e w' =>
  e = .returned (.tuple #[]) ∧ ∃ (v' : Value) (qs : List (Stp × Value)), qs.map (·.1) = f ps.length ∧ SkSt q base lo cap ls w' at2 v' (ps ++ qs) ∧ Wk q v.ownBlock w w' ∧ RowTo w v v'
end
section
open Go.RowKit
theorem ck_all (p : Nat) (lo : Option Addr) (cap : Nat) (ls : List Ln) (hl : ls.length ≤ 60) (hcap : ls.length ≤ cap) (hl0 : 0 < ls.length) (hg : ∀ l ∈ ls, GoodL l) : ∀ n, CkIH n p lo cap ls
 | 0 => ck_block 0 p lo cap ls hl hl0 hg fun t rest at_ br ks ht hn _ _ _ _ => by
   have h := node_len t
   have hpos : 1 ≤ nodeN t := by cases t <;> simp [nodeN, isNode] at hn ⊢
   exact absurd ht (by omega)
 | n + 1 => ck_block (n + 1) p lo cap ls hl hl0 hg fun t rest at_ br ks ht hn ho hw hd hk => inner_node n p lo cap ls hl hcap hg (ck_all p lo cap ls hl hcap hl0 hg n) t rest at_ br ks ht hn ho hw hd hk
theorem flowCheckS_long (ao : Option Addr) (cap : Nat) (ls : List Ln) (w : World) (hcap : ls.length ≤ cap) (hl : 60 < ls.length) (hl2 : ls.length ≤ 1048576) :
  Calls Tryz.prog 31 #[.slice ao ls.length cap] w fun e w' => ∃ a b : Int, e = .returned (.agg #[.int .i64 a, .int .i64 b]) ∧ Below w.heap.size w w' ∧ CheckC b ls := by
 have HL : Hid (60 < ls.length) := hl
 go_enter Tryz.func31, Tryz.ntmps31
 go_wp2
 refine bodyPost_ret (v := .agg #[.int .i64 0, .int .i64 8]) (by simp [results, Tryz.results31, go_sem]) rfl ?_
 exact ⟨_, _, rfl, (Below.refl _ _).alloc (Nat.le_refl _) _, .inr ⟨by decide, .inl HL.out⟩⟩
theorem good_all {ls : List Ln} (hz : ∀ l ∈ ls, LnSz l) (hb : ∀ l ∈ ls, backL l = true) : ∀ l ∈ ls, GoodL l := fun l hl => by
 obtain ⟨hg, r, hr⟩ := good_line (hb l hl)
 exact ⟨hz l hl, hg, fun h => leaves_to h hr⟩
theorem comes_some {l0 : Ln} {t : Bl} {ks : List ByteArray} {c : Bool} (hn : l0.2.args.Nodup) (h : comeT l0.2.args false true t = some (ks, c)) : comesB l0 t = !c := by
 have e : uniU [] l0.2.args = l0.2.args := by rw [uniU_fresh l0.2.args [] ⟨fun x hx => rfl, hn⟩, List.nil_append]
 rw [comesB, e, h]; cases c <;> rfl
theorem comes_none {l0 : Ln} {t : Bl} (hn : l0.2.args.Nodup) (h : comeT l0.2.args false true t = none) : comesB l0 t = false := by
 have e : uniU [] l0.2.args = l0.2.args := by rw [uniU_fresh l0.2.args [] ⟨fun x hx => rfl, hn⟩, List.nil_append]
 rw [comesB, e, h]
theorem made_row2 (w : World) (o o' : Obj) (B : TypeId) : (((w.alloc o).alloc o').alloc (.cells #[] B)).ownsRow (w.heap.size + 1 + 1) B 1 (.slice (some ⟨w.heap.size + 1 + 1, 0, none⟩) 0 0) 0 [] := by
 have h := made_row (w.alloc o) o' B
 rw [World.size_alloc] at h
 exact h
structure ChkSt (w W1 : World) (L : Value) (args : List ByteArray) (w3 : World) (uo : Option Addr) : Prop where
 below : Below w.heap.size w w3
 res : FBox w3 w.heap.size 0 0
 obj : CObj w3 (W1.heap.size + 1) L 1 0 0
 strs : StrsAt (W1.heap.size + 1 + 1) w3.heap.size w3 uo args
theorem chk_base {w W1 : World} {o : Obj} {L : Value} (hb : Below w.heap.size w W1) (hr : FBox W1 w.heap.size 0 0) :
  ChkSt w W1 L [] (((W1.alloc o).alloc (.cells #[L, .int .i64 1, .int .i64 0, .int .i64 0] 102)).alloc (.cells #[] 9)) (some ⟨W1.heap.size + 1 + 1, 0, none⟩) := by
 have h2 : Below W1.heap.size W1 (((W1.alloc o).alloc (.cells #[L, .int .i64 1, .int .i64 0, .int .i64 0] 102)).alloc (.cells #[] 9)) := (below_two _ _ _).alloc (by simp; omega) _
 refine ⟨hb.trans (h2.mono hb.size), hr.below h2, ?_, StrsAt.nil _ _ _ _⟩
 have h := heap_alloc_new (W1.alloc o) (.cells #[L, .int .i64 1, .int .i64 0, .int .i64 0] 102)
 rw [World.size_alloc] at h
 exact (Below.heap_alloc _ _ _ (by simp)).trans h
theorem chk_app {w W1 w3 : World} {o : Obj} {L : Value} {uo : Option Addr} {uc : Nat} {args : List ByteArray} (hb : Below w.heap.size w W1) (hr : FBox W1 w.heap.size 0 0)
  (hown : w3.ownsRow (W1.heap.size + 1 + 1) 9 1 (.slice uo args.length uc) args.length (strCells args)) (hg : (((W1.alloc o).alloc (.cells #[L, .int .i64 1, .int .i64 0, .int .i64 0] 102)).alloc (.cells #[] 9)).grownBy w3 (Value.slice (some ⟨W1.heap.size + 1 + 1, 0, none⟩) 0 0).ownBlock) :
  ChkSt w W1 L args w3 uo := by
 have h := chk_base (o := o) (L := L) hb hr
 have hws := hb.size
 have hwl := hr.lt
 refine ⟨h.below.grown hg h.below.size (fun j hj => by simp [Value.ownBlock] at hj; omega), (hg.block _ (by simp; omega) (by simp [Value.ownBlock]; try omega)).trans h.res, h.obj.keep (hg.block _ (by simp; try omega) (by simp [Value.ownBlock])), ?_⟩
 obtain ⟨ao', cap', e, _, hs'⟩ := StrsAt.of_owns hown
 simp only [Value.slice.injEq] at e
 obtain ⟨rfl, _, rfl⟩ := e
 exact hs'
theorem chk_grown {w w3 w4 : World} {p : Nat} (hp : w.heap.size < p) (hb : Below w.heap.size w w3) (hr : FBox w3 w.heap.size 0 0) (hg : w3.grownBy w4 (some p)) : Below w.heap.size w w4 ∧ FBox w4 w.heap.size 0 0 :=
 ⟨hb.grown hg hb.size (fun j hj => by cases hj; omega), (hg.block _ hr.lt (by simp; omega)).trans hr⟩
theorem flowCheckS_some (ao : Option Addr) (cap : Nat) (ls : List Ln) (w : World) (hcap : ls.length ≤ cap) (hl : ls.length ≤ 60) (hi : LinesAt w.heap.size w ao ls) (hz : ∀ l ∈ ls, LnSz l) :
  Calls Tryz.prog 31 #[.slice ao ls.length cap] w fun e w' => ∃ a b : Int, e = .returned (.agg #[.int .i64 a, .int .i64 b]) ∧ Below w.heap.size w w' ∧ CheckC b ls := by
 obtain ⟨i0, hi0, hz0, hz1, hz2⟩ := info_parts Tryz.infoStr
 have HI : Hid (LinesAt w.heap.size w ao ls) := hi
 have HZ : Hid (∀ l ∈ ls, LnSz l) := hz
 have HS0 : Hid (Below w.heap.size w (w.alloc (.cells #[.int .i64 0, .int .i64 0] 43))) := (Below.refl _ _).alloc (Nat.le_refl _) _
 clear hi hz
 have hgt : (ls.length : Int) ≤ 60 := by omega
 go_enter Tryz.func31, Tryz.ntmps31
 go_wp2_with fail
 refine (l2Shape_any ao cap ls _ hl HZ.out (HI.out.later HS0.out)).mono ?_
 rintro e W1 ⟨fa, fb, rfl, hb1, hs⟩
 have HB1 : Hid (Below w.heap.size w W1) := HS0.out.trans (hb1.mono (by simp))
 have HR1 : Hid (FBox W1 w.heap.size 0 0) := (hb1.block w.heap.size (by simp)).trans (heap_alloc_new w _)
 have hw1 : w.heap.size < W1.heap.size := by have := hb1.size; simp at this; omega
 clear hb1
 rcases hs with ⟨hf, hst⟩ | ⟨hf, hn⟩
 ·have HST : Hid (standB ls backL) := hst
  obtain ⟨l0, t, hls, hk1, hw⟩ := tree_all ls hst.1 hst.2.2
  have hl0 : 0 < ls.length := by rw [hls]; simp
  have hlt : ls.length = t.flat.length + 1 := by rw [hls]; simp
  have HLS : Hid (ls = l0 :: t.flat) := hls
  have hg := good_all HZ.out hst.2.1
  have hg0 := hg l0 (by rw [hls]; simp)
  have HND : Hid (l0.2.args.Nodup) := hg0.good.once hk1
  have ha3 : l0.2.args.length ≤ 3 := hg0.good.args3
  have HCk : Hid (∀ p, CkIH 60 p ao cap ls) := fun p => ck_all p ao cap ls hl hcap hl0 hg 60
  have HW : Hid t.wf := hw
  obtain ⟨b, off, rfl, hB, aoA, capA, hcA, q0, q1, q2, q3, q4, hA⟩ := HI.out 0 hl0
  rw [show ls[0] = l0 by simp [hls]] at hcA q3 hA
  have HA : Hid (StrsAt 0 w.heap.size w aoA l0.2.args) := hA.mono (Nat.le_refl _) (Nat.le_refl _)
  rw [show off + 0 * 5 + 3 = off + 3 by omega] at q3
  have k3 := (HB1.out.cell (p := ⟨b, _, none⟩) hB).trans q3
  have HLT : Hid (ls.length = t.flat.length + 1) := hlt
  have htl : t.flat.length ≤ 60 := by omega
  clear hlt
  have hbw : b < W1.heap.size := by omega
  have h0i : (0 : Int) < ls.length := by omega
  have hfb : (fb != 0) = false := by rw [bne, hf]; rfl
  clear q0 q1 q2 q3 q4 hA hls hst hk1 hw hg hg0
  have hbs : CkBlk (W1.heap.size + 1) (some ⟨b, off, none⟩) cap ls 1 (1 + t.flat.length) false l0.2.args (comeT l0.2.args false true t) := HCk.out _ t [] 1 false l0.2.args htl HW.out (by rw [HLS.out]; simp) (.inl rfl) (by omega)
  have HBlk : Hid (CkBlk (W1.heap.size + 1) (some ⟨b, off, none⟩) cap ls 1 (1 + t.flat.length) false l0.2.args (comeT l0.2.args false true t)) := hbs
  clear hbs
  obtain ⟨args, hargs⟩ : ∃ args, args = l0.2.args := ⟨_, rfl⟩
  have HAr : Hid (args = l0.2.args) := hargs
  rw [← hargs] at HBlk HA hcA k3 ha3
  clear hargs
  have key : ∀ (w3 : World) (uo : Option Addr) (uc : Nat), ChkSt w W1 (.slice (some ⟨b, off, none⟩) ls.length cap) args w3 uo → Calls Tryz.prog 67 #[.pointer (some ⟨W1.heap.size + 1, 0, none⟩), .slice uo args.length uc, .bool false] w3 fun e w4 => ∃ (vo : Option Addr) (vn vc : Nat) (y : Bool) (a ln fc : Int), e = .returned (.tuple #[.slice vo vn vc, .bool y]) ∧ Hid (Below w.heap.size w w4) ∧ Hid (FBox w4 w.heap.size 0 0) ∧ Hid (CObj w4 (W1.heap.size + 1) (.slice (some ⟨b, off, none⟩) ls.length cap) a ln fc) ∧ ((fc == 0) = false ∧ Hid (comesB l0 t = false) ∨ fc = 0 ∧ Hid (comesB l0 t = !y)) := by
   intro w3 uo uc hs
   refine (HBlk.out w3 uo uc 0 hs.obj ((HI.out.below hs.below).mono (by omega)) hs.strs).mono ?_
   rintro e w4 ⟨hg, hres⟩
   obtain ⟨hb4, hr4⟩ := chk_grown (p := W1.heap.size + 1) (by omega) hs.below hs.res hg
   cases hc : comeT args false true t with
   | none =>
    rw [hc] at hres
    obtain ⟨vo, vn, vc, y, a, ln, fc, rfl, ho, hf⟩ := hres
    exact ⟨vo, vn, vc, y, a, ln, fc, rfl, hb4, hr4, ho, .inl ⟨hf, comes_none HND.out (by rw [← HAr.out]; exact hc)⟩⟩
   | some r =>
    obtain ⟨ks, c⟩ := r
    rw [hc] at hres
    obtain ⟨ko, ck, ln, rfl, ho, _⟩ := hres
    exact ⟨ko, _, ck, c, _, ln, 0, rfl, hb4, hr4, ho, .inr ⟨rfl, comes_some HND.out (by rw [← HAr.out]; exact hc)⟩⟩
  have HKey := (show Hid _ from key)
  clear key HBlk
  have hpp : W1.heap.size + 1 ≠ w.heap.size := by omega
  have hb11 : b < W1.heap.size + 1 := by omega
  have hb12 : b < W1.heap.size + 1 + 1 := by omega
  have fin : ∀ (w5 : World) (a ln fc : Int), Below w.heap.size w w5 → ((fc = 0 ∧ comesB l0 t = true) ∨ (fc ≠ 0 ∧ comesB l0 t = false)) → ∃ a b : Int, Ending.returned (.agg #[.int .i64 ln, .int .i64 fc]) = .returned (.agg #[.int .i64 a, .int .i64 b]) ∧ Below w.heap.size w ((w5.setCell ⟨w.heap.size, 0, none⟩ (.int .i64 ln)).setCell ⟨w.heap.size, 1, none⟩ (.int .i64 fc)) ∧ CheckC b ls := fun w5 a ln fc hb h => by
   refine ⟨ln, fc, rfl, (hb.setCell (p := ⟨w.heap.size, 0, none⟩) (Nat.le_refl _) _).setCell (p := ⟨w.heap.size, 1, none⟩) (Nat.le_refl _) _, ?_⟩
   rcases h with ⟨h1, h2⟩ | ⟨h1, h2⟩
   ·exact .inl ⟨h1, hl, HST.out, l0, t, HLS.out, HW.out, h2⟩
   ·exact .inr ⟨h1, .inr (.inr ⟨l0, t, HLS.out, HW.out, h2⟩)⟩
  have HFin := (show Hid _ from fin)
  clear fin
  have cases2 : aoA = none ∧ args = [] ∨ ∃ ad, aoA = some ad := by
   cases aoA with
   | some ad => exact .inr ⟨ad, rfl⟩
   | none =>
    refine .inl ⟨rfl, ?_⟩
    rcases args with _ | ⟨x, r⟩
    ·rfl
    ·obtain ⟨_, _, e, _⟩ := HA.out 0 (by simp)
     cases e
  have HBox : Hid (∀ (w4 : World) (a ln fc : Int), CObj w4 (W1.heap.size + 1) (.slice (some ⟨b, off, none⟩) ls.length cap) a ln fc → w4.cell? ⟨W1.heap.size + 1, 1, none⟩ = some (.int .i64 a) ∧ w4.cell? ⟨W1.heap.size + 1, 2, none⟩ = some (.int .i64 ln) ∧ w4.cell? ⟨W1.heap.size + 1, 3, none⟩ = some (.int .i64 fc) ∧ w4.frozen? ⟨W1.heap.size + 1, 1, none⟩ = false) := fun w4 a ln fc h => ⟨h.c1, h.c2, h.c3, h.fz 1⟩
  rcases cases2 with ⟨rfl, ha0⟩ | ⟨ad, rfl⟩
  ·have HA0 : Hid (args = []) := ha0
   have hal : args.length = 0 := by rw [ha0]; rfl
   rw [hal] at k3
   have HC0 : Hid (ChkSt w W1 (.slice (some ⟨b, off, none⟩) ls.length cap) args (((W1.alloc (.cells #[.int .i64 fa, .int .i64 fb] 43)).alloc (.cells #[.slice (some ⟨b, off, none⟩) ls.length cap, .int .i64 1, .int .i64 0, .int .i64 0] 102)).alloc (.cells #[] 9)) (some ⟨W1.heap.size + 1 + 1, 0, none⟩)) := by
    show ChkSt _ _ _ _ _ _
    rw [ha0]; exact chk_base HB1.out HR1.out
   have HAL : Hid (args.length = 0) := hal
   clear ha0 hal
   go_wp2_with fail
   have hcall := HKey.out _ _ 0 HC0.out
   rw [HAL.out] at hcall
   refine hcall.mono ?_
   rintro e w4 ⟨vo, vn, vc, y, a, ln, fc, rfl, HB4, HR4, HC4, hres⟩
   have hw4 : w.heap.size < w4.heap.size := HR4.out.lt
   have hp4 : W1.heap.size + 1 < w4.heap.size := HC4.out.lt
   obtain ⟨p1, p2, p3, pf⟩ := HBox.out _ _ _ _ HC4.out
   obtain ⟨r0, r1, fr⟩ := HR4.out.cells
   rcases hres with ⟨hf4, HN⟩ | ⟨rfl, HN⟩
   ·have hf5 : fc ≠ 0 := by simpa using hf4
    go_wp2
    refine bodyPost_ret (v := .agg #[.int .i64 ln, .int .i64 fc]) (by simp [results, Tryz.results31, go_sem, r0, r1]) rfl ?_
    exact HFin.out _ a ln fc HB4.out (.inr ⟨hf5, HN.out⟩)
   ·cases y with
    | false =>
     go_wp2
     refine bodyPost_ret (v := .agg #[.int .i64 ln, .int .i64 0]) (by simp [results, Tryz.results31, go_sem, r0, r1]) rfl ?_
     exact HFin.out _ a ln 0 HB4.out (.inl ⟨rfl, HN.out⟩)
    | true =>
     have e1 : Hid ((t.flat.length : Int) = (ls.length : Int) - 1) := by show _ = _; rw [HLT.out]; omega
     have HCx : Hid (CObj (w4.setCell ⟨W1.heap.size + 1, 1, none⟩ (.int .i64 ((ls.length : Int) - 1))) (W1.heap.size + 1) (.slice (some ⟨b, off, none⟩) ls.length cap) (t.flat.length : Nat) ln 0) := by
      have h := HC4.out.at ((ls.length : Int) - 1)
      rw [← e1.out] at h ⊢; exact h
     have HBx : Hid (Below w.heap.size w (w4.setCell ⟨W1.heap.size + 1, 1, none⟩ (.int .i64 ((ls.length : Int) - 1)))) := HB4.out.setCell (p := ⟨W1.heap.size + 1, 1, none⟩) (by show w.heap.size ≤ W1.heap.size + 1; omega) _
     have HRx : Hid (FBox (w4.setCell ⟨W1.heap.size + 1, 1, none⟩ (.int .i64 ((ls.length : Int) - 1))) w.heap.size 0 0) := (Below.heap_setCell w4 ⟨W1.heap.size + 1, 1, none⟩ _ w.heap.size (fun e => by have : w.heap.size = W1.heap.size + 1 := e; omega)).trans HR4.out
     go_wp2_with (go_at_call 68; refine (fail_first _ _ t.flat.length ln 6 _ HCx.out (by omega)).mono ?_; rintro e w5 ⟨rfl, hc5, hg5⟩; obtain ⟨hb5, hr5⟩ := chk_grown (p := W1.heap.size + 1) (by omega) HBx.out HRx.out hg5; have HB5 : Hid (Below w.heap.size w w5) := hb5; have HC5 : Hid (CObj w5 _ _ _ _ _) := hc5; obtain ⟨s0, s1, fs⟩ := hr5.cells; obtain ⟨u1, u2, u3, uf⟩ := HBox.out _ _ _ _ hc5; clear hb5 hc5 hg5 hr5 p1 p2 p3 pf r0 r1)
     refine bodyPost_ret (v := .agg #[.int .i64 ((t.flat.length : Int) + 1), .int .i64 6]) (by simp [results, Tryz.results31, go_sem, s0, s1]) rfl ?_
     exact HFin.out _ 0 _ 6 HB5.out (.inr ⟨by decide, HN.out⟩)
  ·have hcells : ∀ j u, (strCells args)[j]? = some u → (((W1.alloc (.cells #[.int .i64 fa, .int .i64 fb] 43)).alloc (.cells #[.slice (some ⟨b, off, none⟩) ls.length cap, .int .i64 1, .int .i64 0, .int .i64 0] 102)).alloc (.cells #[] 9)).cell? (ad.add j) = some u := by
    rcases args with _ | ⟨x, r⟩
    ·intro j u hj; simp [strCells] at hj
    ·obtain ⟨b', o', e, _⟩ := HA.out 0 (by simp)
     cases e
     exact strs_cells (HA.out.later (HB1.out.trans (((below_two _ _ _).alloc (by simp; omega) _).mono HB1.out.size)))
   have HC := (show Hid _ from hcells)
   have HM : Hid ((((W1.alloc (.cells #[.int .i64 fa, .int .i64 fb] 43)).alloc (.cells #[.slice (some ⟨b, off, none⟩) ls.length cap, .int .i64 1, .int .i64 0, .int .i64 0] 102)).alloc (.cells #[] 9)).ownsRow (W1.heap.size + 1 + 1) 9 1 (.slice (some ⟨W1.heap.size + 1 + 1, 0, none⟩) 0 0) 0 []) := made_row2 _ _ _ _
   clear hcells
   go_wp2_with (at_builtin; go_loud (refine wpList_append_own _ rfl _ _ 45 rfl (W1.heap.size + 1 + 1) 9 i0 (.string ByteArray.empty) 1 16 Tryz.underlying45 hi0 hz0 hz1 hz2 rfl (by decide) _ _ _ rfl HM.out ad args.length _ (strCells args) rfl (by simp [strCells]) HC.out (by intro u hu; simp [strCells] at hu; obtain ⟨a, _, rfl⟩ := hu; rfl) (by unfold maxLen; omega) (by omega) (by simp) ?_; intro v' w3 hown hgrow _; rw [Nat.zero_add, List.nil_append] at hown; obtain ⟨uo, uc, rfl, huc⟩ := own_form hown; have HC0 : Hid (ChkSt w W1 _ args w3 uo) := chk_app HB1.out HR1.out hown hgrow; clear hown hgrow))
   refine (HKey.out _ _ uc HC0.out).mono ?_
   rintro e w4 ⟨vo, vn, vc, y, a, ln, fc, rfl, HB4, HR4, HC4, hres⟩
   have hw4 : w.heap.size < w4.heap.size := HR4.out.lt
   have hp4 : W1.heap.size + 1 < w4.heap.size := HC4.out.lt
   obtain ⟨p1, p2, p3, pf⟩ := HBox.out _ _ _ _ HC4.out
   obtain ⟨r0, r1, fr⟩ := HR4.out.cells
   rcases hres with ⟨hf4, HN⟩ | ⟨rfl, HN⟩
   ·have hf5 : fc ≠ 0 := by simpa using hf4
    go_wp2
    refine bodyPost_ret (v := .agg #[.int .i64 ln, .int .i64 fc]) (by simp [results, Tryz.results31, go_sem, r0, r1]) rfl ?_
    exact HFin.out _ a ln fc HB4.out (.inr ⟨hf5, HN.out⟩)
   ·cases y with
    | false =>
     go_wp2
     refine bodyPost_ret (v := .agg #[.int .i64 ln, .int .i64 0]) (by simp [results, Tryz.results31, go_sem, r0, r1]) rfl ?_
     exact HFin.out _ a ln 0 HB4.out (.inl ⟨rfl, HN.out⟩)
    | true =>
     have e1 : Hid ((t.flat.length : Int) = (ls.length : Int) - 1) := by show _ = _; rw [HLT.out]; omega
     have HCx : Hid (CObj (w4.setCell ⟨W1.heap.size + 1, 1, none⟩ (.int .i64 ((ls.length : Int) - 1))) (W1.heap.size + 1) (.slice (some ⟨b, off, none⟩) ls.length cap) (t.flat.length : Nat) ln 0) := by
      have h := HC4.out.at ((ls.length : Int) - 1)
      rw [← e1.out] at h ⊢; exact h
     have HBx : Hid (Below w.heap.size w (w4.setCell ⟨W1.heap.size + 1, 1, none⟩ (.int .i64 ((ls.length : Int) - 1)))) := HB4.out.setCell (p := ⟨W1.heap.size + 1, 1, none⟩) (by show w.heap.size ≤ W1.heap.size + 1; omega) _
     have HRx : Hid (FBox (w4.setCell ⟨W1.heap.size + 1, 1, none⟩ (.int .i64 ((ls.length : Int) - 1))) w.heap.size 0 0) := (Below.heap_setCell w4 ⟨W1.heap.size + 1, 1, none⟩ _ w.heap.size (fun e => by have : w.heap.size = W1.heap.size + 1 := e; omega)).trans HR4.out
     go_wp2_with (go_at_call 68; refine (fail_first _ _ t.flat.length ln 6 _ HCx.out (by omega)).mono ?_; rintro e w5 ⟨rfl, hc5, hg5⟩; obtain ⟨hb5, hr5⟩ := chk_grown (p := W1.heap.size + 1) (by omega) HBx.out HRx.out hg5; have HB5 : Hid (Below w.heap.size w w5) := hb5; have HC5 : Hid (CObj w5 _ _ _ _ _) := hc5; obtain ⟨s0, s1, fs⟩ := hr5.cells; obtain ⟨u1, u2, u3, uf⟩ := HBox.out _ _ _ _ hc5; clear hb5 hc5 hg5 hr5 p1 p2 p3 pf r0 r1)
     refine bodyPost_ret (v := .agg #[.int .i64 ((t.flat.length : Int) + 1), .int .i64 6]) (by simp [results, Tryz.results31, go_sem, s0, s1]) rfl ?_
     exact HFin.out _ 0 _ 6 HB5.out (.inr ⟨by decide, HN.out⟩)
 ·have HN : Hid (¬ standB ls backL) := hn
  have hfb : (fb != 0) = true := by rw [bne, hf]; rfl
  have hf0 : fb ≠ 0 := by simpa using hf
  obtain ⟨r0, r1, fr⟩ := HR1.out.cells
  clear hn
  go_wp2
  refine bodyPost_ret (v := .agg #[.int .i64 fa, .int .i64 fb]) (by simp [results, Tryz.results31, go_sem, r0, r1, hw1]) rfl ?_
  exact ⟨_, _, rfl, ((HB1.out.setCell (p := ⟨w.heap.size, 0, none⟩) (Nat.le_refl _) _).setCell (p := ⟨w.heap.size, 1, none⟩) (Nat.le_refl _) _).alloc (by simp [World.setCell]; omega) _, .inr ⟨hf0, .inr (.inl HN.out)⟩⟩
theorem flowCheckS_any (ao : Option Addr) (cap : Nat) (ls : List Ln) (w : World) (hcap : ls.length ≤ cap) (hl : ls.length ≤ 1048576) (hi : LinesAt w.heap.size w ao ls) (hz : ∀ l ∈ ls, LnSz l) :
  Calls Tryz.prog 31 #[.slice ao ls.length cap] w fun e w' => ∃ a b : Int, e = .returned (.agg #[.int .i64 a, .int .i64 b]) ∧ Below w.heap.size w w' ∧ CheckC b ls := by
 by_cases h : 60 < ls.length
 ·exact flowCheckS_long ao cap ls w hcap h hl
 ·exact flowCheckS_some ao cap ls w hcap (by omega) hi hz
end
section
open Go.RowKit
section
variable {q base : Nat} {lo : Option Addr} {cap : Nat} {ls : List Ln} {w w' : World} {at_ : Nat} {v : Value} {ps : List (Stp × Value)}
end
end
section
open Go.RowKit
set_option linter.unusedVariables false
end
section
open Go.RowKit
set_option linter.unusedVariables false
end
section
open Go.RowKit
set_option linter.unusedVariables false
end
section
open Go.RowKit
set_option linter.unusedVariables false
end
section
open Go.RowKit
set_option linter.unusedVariables false
end
section
open Go.RowKit
theorem SkInn.congr {q base : Nat} {lo : Option Addr} {cap : Nat} {ls : List Ln} {F at_ at2 at3 N M : Nat} {l l' : Ln} {f g : Nat → List Stp} (h : SkInn q base lo cap ls F at_ at2 N l f) (e : at2 = at3) (el : l = l') (hM : M ≤ N) (hfg : ∀ n, f n = g n) : SkInn q base lo cap ls F at_ at3 M l' g := by
 subst e el
 intro w v ps ao c hs ha hps
 rw [← hfg]
 exact h w v ps ao c hs ha (Nat.le_trans hps hM)
end
section
open Go.RowKit
set_option linter.unusedVariables false
end
section
theorem end_first {t : Bl} {rest rest' : List Ln} (hn : isNode t = true) (hw : t.wf) (h : rest = t.flat ++ rest') (he : EndOk rest) : False := by
 have hf := first_open hn hw
 obtain ⟨y, hy⟩ : ∃ y, t.flat = firstL t :: y := by
  cases t with
  | nil => cases hn
  | plain l r => exact ⟨_, rfl⟩
  | one l p e r => exact ⟨_, rfl⟩
  | two l p m q e r => exact ⟨_, rfl⟩
 rw [hy] at h
 rcases he with rfl | ⟨c, r, rfl, hc⟩
 ·cases h
 ·simp only [List.cons_append, List.cons.injEq] at h
  rw [← h.1, hc] at hf
  cases hf
theorem flat_inj (t : Bl) : ∀ (t' : Bl) (rest rest' : List Ln), t.wf → t'.wf → t.flat ++ rest = t'.flat ++ rest' → EndOk rest → EndOk rest' → t = t' ∧ rest = rest' := by
 induction t with
 | nil =>
  intro t' rest rest' hw hw' h he he'
  cases hn : isNode t' with
  | false => cases t' <;> first | exact ⟨rfl, h⟩ | cases hn
  | true => exact (end_first hn hw' h he).elim
 | plain l r ih =>
  intro t' rest rest' hw hw' h he he'
  cases t' with
  | nil => exact (end_first (t := .plain l r) rfl hw h.symm he').elim
  | plain l' r' =>
   simp only [Bl.flat, List.cons_append, List.cons.injEq] at h
   obtain ⟨rfl, h⟩ := h
   obtain ⟨rfl, h2⟩ := ih r' rest rest' hw.2.2.2 hw'.2.2.2 h he he'
   exact ⟨rfl, h2⟩
  | one l' p' e' r' =>
   simp only [Bl.flat, List.cons_append, List.cons.injEq] at h
   have h1 := hw.1
   rw [h.1, hw'.1] at h1
   cases h1
  | two l' p' m' q' e' r' =>
   simp only [Bl.flat, List.cons_append, List.cons.injEq] at h
   have h1 := hw.1
   rw [h.1] at h1
   rcases hw'.1 with ⟨h2, _⟩ | ⟨h2, _⟩
   ·unfold opensK at h1; rw [h2] at h1; cases h1
   ·rw [h2] at h1; cases h1
 | one l p e r ihp ihr =>
  intro t' rest rest' hw hw' h he he'
  cases t' with
  | nil => exact (end_first (t := .one l p e r) rfl hw h.symm he').elim
  | plain l' r' =>
   simp only [Bl.flat, List.cons_append, List.cons.injEq] at h
   have h1 := hw'.1
   rw [← h.1, hw.1] at h1
   cases h1
  | one l' p' e' r' =>
   simp only [Bl.flat, List.cons_append, List.append_assoc, List.cons.injEq] at h
   obtain ⟨rfl, h⟩ := h
   obtain ⟨rfl, h2⟩ := ihp p' _ _ hw.2.2.2.1 hw'.2.2.2.1 h (.inr ⟨e, _, rfl, by rw [hw.2.2.1]; rfl⟩) (.inr ⟨e', _, rfl, by rw [hw'.2.2.1]; rfl⟩)
   simp only [List.cons.injEq] at h2
   obtain ⟨rfl, h2⟩ := h2
   obtain ⟨rfl, h3⟩ := ihr r' rest rest' hw.2.2.2.2 hw'.2.2.2.2 h2 he he'
   exact ⟨rfl, h3⟩
  | two l' p' m' q' e' r' =>
   simp only [Bl.flat, List.cons_append, List.append_assoc, List.cons.injEq] at h
   obtain ⟨rfl, h⟩ := h
   have hmc : closesK m'.1 = true := by rcases hw'.1 with ⟨_, h⟩ | ⟨_, h⟩ <;> rw [h] <;> rfl
   obtain ⟨rfl, h2⟩ := ihp p' _ _ hw.2.2.2.1 hw'.2.2.1 h (.inr ⟨e, _, rfl, by rw [hw.2.2.1]; rfl⟩) (.inr ⟨m', _, rfl, hmc⟩)
   simp only [List.cons.injEq] at h2
   have h3 := hw.2.2.1
   rw [h2.1] at h3
   rcases hw'.1 with ⟨_, h4⟩ | ⟨_, h4⟩ <;> rw [h4] at h3 <;> cases h3
 | two l p m q e r ihp ihq ihr =>
  intro t' rest rest' hw hw' h he he'
  have hmc : closesK m.1 = true := by rcases hw.1 with ⟨_, h⟩ | ⟨_, h⟩ <;> rw [h] <;> rfl
  cases t' with
  | nil => exact (end_first (t := .two l p m q e r) rfl hw h.symm he').elim
  | plain l' r' =>
   simp only [Bl.flat, List.cons_append, List.cons.injEq] at h
   have h1 := hw'.1
   rw [← h.1] at h1
   rcases hw.1 with ⟨h2, _⟩ | ⟨h2, _⟩
   ·unfold opensK at h1; rw [h2] at h1; cases h1
   ·rw [h2] at h1; cases h1
  | one l' p' e' r' =>
   simp only [Bl.flat, List.cons_append, List.append_assoc, List.cons.injEq] at h
   obtain ⟨rfl, h⟩ := h
   obtain ⟨rfl, h2⟩ := ihp p' _ _ hw.2.2.1 hw'.2.2.2.1 h (.inr ⟨m, _, rfl, hmc⟩) (.inr ⟨e', _, rfl, by rw [hw'.2.2.1]; rfl⟩)
   simp only [List.cons.injEq] at h2
   have h3 := hw'.2.2.1
   rw [← h2.1] at h3
   rcases hw.1 with ⟨_, h4⟩ | ⟨_, h4⟩ <;> rw [h4] at h3 <;> cases h3
  | two l' p' m' q' e' r' =>
   simp only [Bl.flat, List.cons_append, List.append_assoc, List.cons.injEq] at h
   obtain ⟨rfl, h⟩ := h
   have hmc' : closesK m'.1 = true := by rcases hw'.1 with ⟨_, h⟩ | ⟨_, h⟩ <;> rw [h] <;> rfl
   obtain ⟨rfl, h2⟩ := ihp p' _ _ hw.2.2.1 hw'.2.2.1 h (.inr ⟨m, _, rfl, hmc⟩) (.inr ⟨m', _, rfl, hmc'⟩)
   simp only [List.cons.injEq] at h2
   obtain ⟨rfl, h2⟩ := h2
   obtain ⟨rfl, h3⟩ := ihq q' _ _ hw.2.2.2.1 hw'.2.2.2.1 h2 (.inr ⟨e, _, rfl, by rw [hw.2.1]; rfl⟩) (.inr ⟨e', _, rfl, by rw [hw'.2.1]; rfl⟩)
   simp only [List.cons.injEq] at h3
   obtain ⟨rfl, h3⟩ := h3
   obtain ⟨rfl, h4⟩ := ihr r' rest rest' hw.2.2.2.2 hw'.2.2.2.2 h3 he he'
   exact ⟨rfl, h4⟩
theorem tree_one {l0 l1 : Ln} {t t' : Bl} (h : l0 :: t.flat = l1 :: t'.flat) (hw : t.wf) (hw' : t'.wf) : l0 = l1 ∧ t = t' := by
 simp only [List.cons.injEq] at h
 exact ⟨h.1, (flat_inj t t' [] [] hw hw' (by rw [List.append_nil, List.append_nil]; exact h.2) (.inl rfl) (.inl rfl)).1⟩
theorem checkC_same {b b' : Int} {ls : List Ln} (h : CheckC b ls) (h' : CheckC b' ls) : b = 0 ↔ b' = 0 := by
 have key : ∀ {x y : Int}, CheckC x ls → CheckC y ls → x = 0 → y = 0 := by
  intro x y hx hy e
  rcases hx with ⟨_, hl, hs, l0, t, e1, hw, hc⟩ | ⟨hn, _⟩
  ·rcases hy with ⟨h0, _⟩ | ⟨_, h1 | h1 | ⟨l1, t', e2, hw', hc'⟩⟩
   ·exact h0
   ·omega
   ·exact absurd hs h1
   ·obtain ⟨rfl, rfl⟩ := tree_one (e1.symm.trans e2) hw hw'
    rw [hc] at hc'; cases hc'
  ·exact absurd e hn
 exact ⟨key h h', key h' h⟩
end
section
open Go.RowKit
set_option linter.unusedVariables false
end
section
open Go.RowKit
set_option linter.unusedVariables false
end
section
theorem ln_mark : ∀ (ps : List (Ln × Value)) (k : Nat), markEnd markLnN k ps ≤ k + 4 * ps.length + sumL (ps.map (·.1))
 | [], k => by simp [markEnd]
 | p :: r, k => by
  have h := ln_mark r (k + markLnN p.1)
  have hb : p.1.2.args.length ≤ bulkL p.1 := by unfold bulkL bulkS; omega
  have hm : markLnN p.1 = p.1.2.args.length + 4 := rfl
  simp only [markEnd, List.map_cons, sumL, List.length_cons] at h ⊢
  omega
end
section
open Go.RowKit
theorem own_lines {base : Nat} {w : World} {v : Value} {ps : List (Ln × Value)} (h : OwnLn base w v ps) : ∃ ao cap, v = .slice ao ps.length cap ∧ ps.length ≤ cap ∧ LinesAt w.heap.size w ao (ps.map (·.1)) := by
 obtain ⟨ao, cap, rfl, hc⟩ := own_form h.row
 refine ⟨ao, cap, rfl, hc, fun k hk => ?_⟩
 have hk' : k < ps.length := by simpa using hk
 rcases h.row.2 with ⟨_, h0⟩ | ⟨g, cap', cur, e, hb, hg, _⟩
 ·omega
 ·simp only [Value.slice.injEq] at e
  obtain ⟨rfl, _, rfl⟩ := e
  have hargs := h.args _ (List.getElem_mem hk')
  obtain ⟨bo, bc, e2, hbc, hs⟩ := StrsAt.of_owns hargs
  have hcell := fun j hj u hu => h.cell (fun _ _ => rfl) rfl k j hk' hj u hu
  refine ⟨g, 0, rfl, (h.row.lt g rfl).2, bo, bc, ?_, ?_, ?_, ?_, ?_, ?_, ?_⟩
  ·simpa [lnA] using hbc
  ·rw [Nat.zero_add]; simpa using hcell 0 (by decide) _ rfl
  ·rw [Nat.zero_add]; simpa using hcell 1 (by decide) _ rfl
  ·rw [Nat.zero_add]; simpa using hcell 2 (by decide) _ rfl
  ·rw [Nat.zero_add]; have := hcell 3 (by decide) _ rfl; rw [this]; simp only [List.getElem_map]; exact congrArg some e2
  ·rw [Nat.zero_add]; simpa using hcell 4 (by decide) _ rfl
  ·rw [List.getElem_map]; exact hs.mono (Nat.zero_le _) (Nat.le_refl _)
end
section
open Go.RowKit
def ArgG (B : Nat) (w : World) (ob : Option Nat) (p : Ln × Value) : Prop := ∃ ao cap, p.2 = .slice ao p.1.2.args.length cap ∧ p.1.2.args.length ≤ cap ∧ StrsAt 0 B w ao p.1.2.args ∧ ∀ b off, ao = some ⟨b, off, none⟩ → 0 < p.1.2.args.length → ob ≠ some b
structure RowL (base : Nat) (w : World) (v : Value) (ps : List (Ln × Value)) : Prop where
 row : w.ownsRow base 49 5 v ps.length (ps.flatMap lnF)
 args : ∀ p ∈ ps, ArgG w.heap.size w v.ownBlock p
section
variable {base B : Nat} {w w' : World} {v v' : Value} {ps qs : List (Ln × Value)} {p : Ln × Value} {ob : Option Nat}
theorem ArgG.later (h : ArgG w.heap.size w ob p) (hb : Below w.heap.size w w') : ArgG w'.heap.size w' ob p := by
 obtain ⟨ao, cap, e, hc, hs, hn⟩ := h
 exact ⟨ao, cap, e, hc, hs.later hb, hn⟩
theorem ArgG.lift (h : ArgG B w none p) (hB : B ≤ w.heap.size) (hb : ∀ k, ob = some k → B ≤ k) : ArgG w.heap.size w ob p := by
 obtain ⟨ao, cap, e, hc, hs, hn⟩ := h
 refine ⟨ao, cap, e, hc, hs.mono (Nat.le_refl _) hB, fun b off ha h0 hx => ?_⟩
 obtain ⟨b', off', e', hlt, _⟩ := hs 0 h0
 rw [ha] at e'
 simp only [Option.some.injEq, Addr.mk.injEq] at e'
 obtain ⟨rfl, _⟩ := e'
 have := hb b hx
 omega
theorem ArgG.bare (l : Ln) (h : l.2.args = []) : ArgG B w ob (l, .slice none 0 0) := by
 refine ⟨none, 0, by rw [h]; rfl, by rw [h]; exact Nat.le_refl _, by rw [h]; exact StrsAt.nil _ _ _ _, fun b off e => by cases e⟩
theorem RowL.nil (base : Nat) (w : World) : RowL base w (.slice none 0 0) [] := ⟨World.ownsRow_nil _ _ _ _, fun p hp => by simp at hp⟩
theorem RowL.below (h : RowL base w v ps) (hb : Below w.heap.size w w') : RowL base w' v ps := ⟨own_below h.row hb, fun p hp => (h.args p hp).later hb⟩
theorem RowL.mono {base' : Nat} (h : RowL base w v ps) (hb : base' ≤ base) : RowL base' w v ps := ⟨own_mono h.row hb, h.args⟩
theorem own_rowL (h : OwnLn base w v ps) : RowL base w v ps := ⟨h.row, fun p hp => by
 have h1 := h.args p hp
 obtain ⟨bo, bc, e2, hbc, hs⟩ := StrsAt.of_owns h1
 refine ⟨bo, bc, e2, hbc, hs.mono (Nat.zero_le _) (Nat.le_refl _), fun b off ha h0 hx => ?_⟩
 refine own_types h.row h1 (by decide) b hx ?_
 rw [e2, ha]; rfl⟩
theorem lnF_at (ps : List (Ln × Value)) (k j : Nat) (hk : k < ps.length) (hj : j < 5) : (ps.flatMap lnF)[k * 5 + j]? = (lnF ps[k])[j]? := flat_at (F := lnF) lnF_len ps k j hk hj
theorem RowL.lines (h : RowL base w v ps) : ∃ ao cap, v = .slice ao ps.length cap ∧ ps.length ≤ cap ∧ LinesAt w.heap.size w ao (ps.map (·.1)) := by
 obtain ⟨ao, cap, rfl, hc⟩ := own_form h.row
 refine ⟨ao, cap, rfl, hc, fun k hk => ?_⟩
 have hk' : k < ps.length := by simpa using hk
 rcases h.row.2 with ⟨_, h0⟩ | ⟨g, cap', cur, e, hb, hg, _⟩
 ·omega
 ·simp only [Value.slice.injEq] at e
  obtain ⟨rfl, _, rfl⟩ := e
  obtain ⟨bo, bc, e2, hbc, hs, _⟩ := h.args _ (List.getElem_mem hk')
  have hcell : ∀ j, j < 5 → ∀ u, (lnF ps[k])[j]? = some u → w.cell? ⟨g, k * 5 + j, none⟩ = some u := fun j hj u hu => by
   rw [h.row.cellAt _ (by omega), lnF_at ps k j hk' hj]; exact hu
  refine ⟨g, 0, rfl, (h.row.lt g rfl).2, bo, bc, ?_, ?_, ?_, ?_, ?_, ?_, ?_⟩
  ·simpa using hbc
  ·rw [Nat.zero_add]; simpa using hcell 0 (by decide) _ rfl
  ·rw [Nat.zero_add]; simpa using hcell 1 (by decide) _ rfl
  ·rw [Nat.zero_add]; simpa using hcell 2 (by decide) _ rfl
  ·rw [Nat.zero_add]; have := hcell 3 (by decide) _ rfl; rw [this]; simp only [List.getElem_map]; exact congrArg some e2
  ·rw [Nat.zero_add]; simpa using hcell 4 (by decide) _ rfl
  ·rw [List.getElem_map]; exact hs
theorem lines_rows {ao : Option Addr} {ls : List Ln} (h : LinesAt B w ao ls) : ∃ ps : List (Ln × Value), ps.map (·.1) = ls ∧ (∀ p ∈ ps, ArgG B w none p) ∧ ∀ j u, (ps.flatMap lnF)[j]? = some u → ∃ b off, ao = some ⟨b, off, none⟩ ∧ b < B ∧ w.cell? ⟨b, off + j, none⟩ = some u := by
 have each : ∀ k (hk : k < ls.length), ∃ u : Value, ArgG B w none (ls[k], u) ∧ ∀ j, j < 5 → ∃ b off, ao = some ⟨b, off, none⟩ ∧ b < B ∧ w.cell? ⟨b, off + (k * 5 + j), none⟩ = (lnF (ls[k], u))[j]? := by
  intro k hk
  obtain ⟨b, off, e, hB, bo, bc, hc, q0, q1, q2, q3, q4, hs⟩ := h k hk
  refine ⟨.slice bo ls[k].2.args.length bc, ⟨bo, bc, rfl, hc, hs, fun _ _ _ _ h => by cases h⟩, fun j hj => ⟨b, off, e, hB, ?_⟩⟩
  rcases j with _ | _ | _ | _ | _ | j
  ·exact q0
  ·exact q1
  ·exact q2
  ·exact q3
  ·exact q4
  ·omega
 have all : ∀ n, n ≤ ls.length → ∃ ps : List (Ln × Value), ps.map (·.1) = ls.take n ∧ (∀ p ∈ ps, ArgG B w none p) ∧ ∀ j u, (ps.flatMap lnF)[j]? = some u → ∃ b off, ao = some ⟨b, off, none⟩ ∧ b < B ∧ w.cell? ⟨b, off + j, none⟩ = some u := by
  intro n
  induction n with
  | zero => intro _; exact ⟨[], by simp, fun p hp => by simp at hp, fun j u hj => by simp at hj⟩
  | succ n ih =>
   intro hn
   obtain ⟨ps, hm, ha, hc⟩ := ih (by omega)
   obtain ⟨u, hu, hcu⟩ := each n (by omega)
   have hpl : ps.length = n := by have := congrArg List.length hm; simp at this; omega
   have hfl := flat_count (F := lnF) lnF_len ps
   refine ⟨ps ++ [(ls[n], u)], ?_, ?_, ?_⟩
   ·rw [List.map_append, hm, List.take_succ_eq_append_getElem (by omega)]; rfl
   ·intro p hp
    rcases List.mem_append.1 hp with hp | hp
    ·exact ha p hp
    ·have : p = (ls[n], u) := by simpa using hp
     subst this; exact hu
   ·intro j x hj
    rw [List.flatMap_append] at hj
    rcases Nat.lt_or_ge j (n * 5) with hlt | hge
    ·rw [List.getElem?_append_left (by rw [hfl, hpl]; exact hlt)] at hj
     exact hc j x hj
    ·rw [List.getElem?_append_right (by rw [hfl, hpl]; exact hge), hfl, hpl] at hj
     have h5 : (([(ls[n], u)] : List (Ln × Value)).flatMap lnF) = lnF (ls[n], u) := by simp
     rw [h5] at hj
     have hj5 : j - n * 5 < 5 := by
      have := (List.getElem?_eq_some_iff.1 hj).1
      rwa [lnF_len] at this
     obtain ⟨b, off, e, hB, hcell⟩ := hcu (j - n * 5) hj5
     refine ⟨b, off, e, hB, ?_⟩
     rw [hj, show n * 5 + (j - n * 5) = j by omega] at hcell
     exact hcell
 obtain ⟨ps, hm, ha, hc⟩ := all ls.length (Nat.le_refl _)
 rw [List.take_length] at hm
 exact ⟨ps, hm, ha, hc⟩
theorem lnF_one (ps : List (Ln × Value)) (h : ∀ p ∈ ps, ArgG B w ob p) : ∀ u ∈ ps.flatMap lnF, u.oneCell' = true := by
 intro u hu
 obtain ⟨p, hp, hu⟩ := List.mem_flatMap.1 hu
 obtain ⟨ao, cap, e, _⟩ := h p hp
 have hx : u = .int .i64 p.1.1 ∨ u = .string p.1.2.to ∨ u = .string p.1.2.name ∨ u = p.2 ∨ u = .string p.1.2.undo := by simpa [lnF, lnC] using hu
 rcases hx with rfl | rfl | rfl | rfl | rfl
 ·rfl
 ·rfl
 ·rfl
 ·rw [e]; rfl
 ·rfl
theorem RowL.app (h : RowL base w v ps) (hq : ∀ q ∈ qs, ArgG w.heap.size w v.ownBlock q) (ho : w'.ownsRow base 49 5 v' (ps.length + qs.length) (ps.flatMap lnF ++ qs.flatMap lnF)) (hg : w.grownBy w' v.ownBlock)
  (hv : v'.ownBlock = v.ownBlock ∨ v'.ownBlock = some w.heap.size) : RowL base w' v' (ps ++ qs) := by
 refine ⟨by rw [List.length_append, List.flatMap_append]; exact ho, fun p hp => ?_⟩
 have hx : ArgG w.heap.size w v.ownBlock p := (List.mem_append.1 hp).elim (h.args p) (hq p)
 obtain ⟨ao, cap, e, hc, hs, hn⟩ := hx
 obtain ⟨g1, g2, g3, g4, g5⟩ := hg
 refine ⟨ao, cap, e, hc, fun k hk => ?_, fun b off ha h0 hb => ?_⟩
 ·obtain ⟨b, off, ea, hlt, hcell⟩ := hs k hk
  refine ⟨b, off, ea, ⟨Nat.zero_le _, Nat.lt_of_lt_of_le hlt.2 g4⟩, ?_⟩
  have hne := hn b off ea (by omega)
  rw [← hcell]
  unfold World.cell?
  rw [g5 b hlt.2 (fun hx => hne hx.symm)]
 ·obtain ⟨b', off', e', hlt, _⟩ := hs 0 h0
  rw [ha] at e'
  simp only [Option.some.injEq, Addr.mk.injEq] at e'
  obtain ⟨rfl, _⟩ := e'
  rcases hv with hv | hv
  ·rw [hv] at hb; exact hn b off ha h0 hb
  ·rw [hv] at hb
   have := Option.some.inj hb
   omega
end
end
end Go.Proofs.YtlbjjbolbopfmaaGreatDoor
