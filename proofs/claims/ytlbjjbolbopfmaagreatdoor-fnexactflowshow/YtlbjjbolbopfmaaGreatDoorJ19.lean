import Derived.Test.YtlbjjbolbopfmaaGreatDoorJ18
namespace Go.Proofs.YtlbjjbolbopfmaaGreatDoor
set_option maxHeartbeats 4000000
set_option maxRecDepth 1000000
set_option linter.unusedVariables false
section
open Go.RowKit
def z_m5 (m q base : Nat) (ao : Option Addr) (cap : Nat) (ls : List Ln) : Prop :=
 ∀ (t : Bl) (rest : List Ln) (at_ boths : Nat) (ks : List ByteArray), t.flat.length ≤ m → z_aR t = true → t.wf → ls.drop at_ = t.flat ++ rest → boths + t.flat.length ≤ 500 → ks.length + t.flat.length ≤ 1000 →
  z_aZ q base ao cap ls 130 at_ (at_ + z_ai t) boths ks (z_cu ks (decide (0 < boths)) t)
def atOf (q : Nat) (w : World) : Nat := match w.cell? ⟨q, 1, none⟩ with
 | some v => (intOf v).toNat
 | none => 0
theorem WkSt.atOf {q base : Nat} {ao : Option Addr} {cap : Nat} {ls : List Ln} {w : World} {at_ boths : Nat} {ks : List ByteArray} {v : Value} (h : WkSt q base ao cap ls w at_ boths ks v) : Go.Proofs.YtlbjjbolbopfmaaGreatDoor.atOf q w = at_ := by
 unfold Go.Proofs.YtlbjjbolbopfmaaGreatDoor.atOf
 rw [h.obj.c1]; simp [intOf]
theorem z_lz {ks : List ByteArray} {b : Bool} {t : Bl} {g : List ByteArray} {c : Bool} (h : z_cu ks b t = some (g, c)) : g.length ≤ z_ai t := by
 cases t with
 | nil => cases h
 | plain l r =>
  simp only [z_cu, Option.some.injEq, Prod.mk.injEq] at h
  rw [← h.1]; split <;> simp [z_ai]
 | one l p e r =>
  simp only [z_cu] at h
  split at h
  ·cases h
  ·simp only [Option.some.injEq, Prod.mk.injEq] at h; rw [← h.1]; simp
 | two l p m q e r =>
  simp only [z_cu] at h
  split at h
  ·cases h
  ·rename_i g1 c1 h1
   split at h
   ·cases h
   ·rename_i g2 c2 h2
    have l1 := z_cO h1
    have l2 := z_cO h2
    have l3 := z_lR g1 g2
    simp only [z_ai]
    split at h
    ·split at h
     ·cases h
     ·simp only [Option.some.injEq, Prod.mk.injEq] at h; rw [← h.1]; simp; omega
    ·split at h
     ·simp only [Option.some.injEq, Prod.mk.injEq] at h; rw [← h.1]; omega
     ·split at h
      ·simp only [Option.some.injEq, Prod.mk.injEq] at h; rw [← h.1]; omega
      ·simp only [Option.some.injEq, Prod.mk.injEq] at h; rw [← h.1]; omega
theorem z_h6 {q base p : Nat} {ao : Option Addr} {cap : Nat} {ls : List Ln} {at_ boths : Nat} {ks g : List ByteArray} {v v' v3 : Value} {w wr W9 w3 : World} {go : Option Addr} {gc : Nat} {live : Bool} {res : Option (List ByteArray × Bool)}
  (hs9 : WkSt q base ao cap ls W9 at_ boths (ks ++ g) v') (hk9 : Wk q v.ownBlock w W9) (hr : RowTo w v v') (hp9 : PartB W9 p (.slice go g.length gc) (.bool live)) (hpq : p ≠ q) (hvp : v'.ownBlock ≠ some p) (hw : w.heap.size ≤ wr.heap.size) (hw9 : wr.heap.size ≤ W9.heap.size)
  (hog : W9.ownsRow wr.heap.size 9 1 (.slice go g.length gc) g.length (strCells g)) (hvr : ∀ k, v'.ownBlock = some k → k < wr.heap.size) (hqr : q < wr.heap.size) (hres : res = some (g, live))
  (ho3 : WObj w3 q (.slice ao ls.length cap) (.int .i64 at_) v3 (.int .i64 boths)) (hw3 : w3.ownsRow base 9 1 v3 ks.length (strCells ks)) (hk3 : Wk q v'.ownBlock W9 w3) (hb3 : v3.ownBlock = v'.ownBlock) :
  PartB w3 p (.slice go g.length gc) (.bool live) ∧ PartEnd q base ao cap ls at_ boths ks v w res (.returned (.tuple #[.agg #[.slice go g.length gc, .bool live], .nilIface])) w3 := by
 subst hres
 refine ⟨hp9.wk hk3 hpq hvp, hk9.trans hk3 hr.or, _, v3, rfl, hs9.to hk3 ho3 hw3, hr.trans (w' := w) (.inl hb3) (Nat.le_refl _), ?_, fun k hk hv => ?_⟩
 ·exact z_bh (z_b9 hog (fun k hk => hk3.block k (hog.lt k hk).2 (fun e => by have := (hog.lt k hk).1; omega) (fun e => by have h1 := hvr k e.symm; have := (hog.lt k hk).1; omega))) hw
 ·have h1 := (hog.lt k hk).1
  have h2 := hvr k (hb3 ▸ hv)
  omega
theorem z_i0 {q base p : Nat} {ao : Option Addr} {cap : Nat} {ls : List Ln} {at_ at2 boths : Nat} {ks g : List ByteArray} {v v' v3 : Value} {w W9 w3 : World} {er : Value} {res : Option (List ByteArray × Bool)}
  (hs9 : WkSt q base ao cap ls W9 at_ boths (ks ++ g) v') (hk9 : Wk q v.ownBlock w W9) (hr : RowTo w v v') (hp9 : PartB W9 p (.slice none 0 0) (.bool false)) (hpq : p ≠ q) (hvp : v'.ownBlock ≠ some p) (hec : ErrC er) (hres : res = none)
  (ho3 : WObj w3 q (.slice ao ls.length cap) (.int .i64 at_) v3 (.int .i64 boths)) (hw3 : w3.ownsRow base 9 1 v3 ks.length (strCells ks)) (hk3 : Wk q v'.ownBlock W9 w3) (hb3 : v3.ownBlock = v'.ownBlock) :
  PartB w3 p (.slice none 0 0) (.bool false) ∧ PartEnd q base ao cap ls at2 boths ks v w res (.returned (.tuple #[.agg #[.slice none 0 0, .bool false], er])) w3 := by
 subst hres
 exact ⟨hp9.wk hk3 hpq hvp, hk9.trans hk3 hr.or, _, v3, at_, rfl, hec, hs9.to hk3 ho3 hw3, hr.trans (w' := w) (.inl hb3) (Nat.le_refl _)⟩
theorem z_hX (m q base : Nat) (ao : Option Addr) (cap : Nat) (ls : List Ln) (hl : ls.length ≤ 60) (hcap : ls.length ≤ cap) (hl0 : 0 < ls.length) (hz : ∀ l ∈ ls, LnSz l) (HL : z_m5 m q base ao cap ls) : z_jg m q base ao cap ls := by
 intro t rest at_ boths ks ht hw hd hend hbo hks w v hs
 have HLI : Hid (z_m5 m q base ao cap ls) := HL
 clear HL
 have HZ : Hid (∀ l ∈ ls, LnSz l) := hz
 clear hz
 obtain ⟨b, off, rfl⟩ := hs.addr hl0
 have HS : Hid (WkSt q base (some ⟨b, off, none⟩) cap ls w at_ boths ks v) := hs
 have hqlt := hs.obj.lt
 have c2 := hs.obj.c2
 have hrl := fun k => hs.row_lt (k := k)
 obtain ⟨vo, vc, rfl, hvc⟩ := z_aq hs.own
 clear hs
 go_enter_defers Tryz.func95, Tryz.ntmps95
 go_wp2_with (go_at_call 127; refine (z_fM q 2 vo ks.length vc _ (by omega) (by rw [World.cell?_alloc_past _ _ _ hqlt]; exact c2)).mono ?_; rintro e w' ⟨rfl, rfl⟩)
 obtain ⟨W1, hW1⟩ : ∃ W1, W1 = w.alloc (.cells #[.slice none 0 0, .bool false] 138) := ⟨_, rfl⟩
 rw [← hW1]
 have hbw : Below w.heap.size w W1 := by rw [hW1]; exact (Below.refl _ _).alloc (Nat.le_refl _) _
 have hsz1 : W1.heap.size = w.heap.size + 1 := by rw [hW1]; simp
 have hp1 : PartB W1 w.heap.size (.slice none 0 0) (.bool false) := by rw [hW1]; exact PartB.new _ _ _
 clear hW1 c2
 go_loopw [5] (fun x wr => ∃ (t' : Bl) (at' : Nat) (g : List ByteArray) (v' : Value) (live : Bool), x = .bool live ∧ Hid (WkSt q base (some ⟨b, off, none⟩) cap ls wr at' boths (ks ++ g) v') ∧ Hid (Wk q (Value.slice vo ks.length vc).ownBlock w wr) ∧ Hid (RowTo W1 (Value.slice vo ks.length vc) v') ∧ w.heap.size < wr.heap.size ∧ Hid (PartB wr w.heap.size (.slice none 0 0) (.bool false)) ∧ Hid (ls.drop at' = t'.flat ++ rest) ∧ Hid t'.wf ∧ t'.flat.length ≤ m ∧ at' + t'.flat.length = at_ + t.flat.length ∧ Hid (z_al ks (decide (0 < boths)) true t = z_al (ks ++ g) (decide (0 < boths)) live t') ∧ (ks ++ g).length + t'.flat.length ≤ 1000 ∧ boths + t'.flat.length ≤ 500) (fun _ wr => ls.length + 1 - atOf q wr)
 case atStart => exact ⟨t, at_, [], _, true, rfl, by rw [List.append_nil]; exact HS.out.below hbw, Wk.of_below hbw, RowTo.refl, by omega, hp1, hd, hw, ht, rfl, by rw [List.append_nil]; rfl, by rw [List.append_nil]; exact hks, hbo⟩
 case round =>
  obtain ⟨t', at', g, v', live, rfl, HS1, HK1, HR1, hsz, HP1, HD1, HW1, htm, hsum, HC1, hlen, hbo1⟩ := hrel
  have c0 := HS1.out.obj.c0
  have c1 := HS1.out.obj.c1
  have hqlt1 := HS1.out.obj.lt
  cases hnode : z_aR t' with
  | false =>
   have ht' : t' = .nil := by cases t' <;> first | rfl | cases hnode
   subst ht'
   have hD : ls.drop at' = rest := by have := HD1.out; simpa [Bl.flat] using this
   have HR : Hid (z_al ks (decide (0 < boths)) true t = some (ks ++ g, live)) := HC1.out
   rcases hend with rfl | ⟨c, r, rfl, hcl⟩
   ·have hge : ls.length ≤ at' := by
     rcases Nat.lt_or_ge at' ls.length with h | h
     ·have := congrArg List.length hD; simp at this; omega
     ·exact h
    have hge2 : ¬ (at' : Int) < ls.length := by omega
    have hge3 : decide (at' < ls.length) = false := decide_eq_false (by omega)
    have hge4 : decide ((at' : Int) < ls.length) = false := decide_eq_false (by omega)
    go_wp2_with fail
    go_quiet (fail)
    go_wp2_with fail
    refine (z_d q 2 v' ks g base _ (by simp at hlen; omega) (HS1.out.below (z_aa (Below.refl _ _) nq)).obj.c2 (HS1.out.below (z_aa (Below.refl _ _) nq)).own).mono ?_
    rintro e W5 ⟨gv, rfl, hog, hb5⟩
    have hb5' : Below wr.heap.size wr W5 := (z_aa (Below.refl _ _) nq).trans hb5
    have HS5 : Hid (WkSt q base (some ⟨b, off, none⟩) cap ls W5 at' boths (ks ++ g) v') := HS1.out.below hb5'
    have hp5 := HP1.out.below hb5'
    have HP5 : Hid (PartB W5 w.heap.size (.slice none 0 0) (.bool false)) := hp5
    obtain ⟨x0, x1, g0, g1⟩ := hp5.cells
    obtain ⟨go, gc, rfl, hgc⟩ := z_aq hog
    have HOG : Hid (W5.ownsRow wr.heap.size 9 1 (.slice go g.length gc) g.length (strCells g)) := hog
    have HK5 : Hid (Wk q (Value.slice vo ks.length vc).ownBlock w W5) := HK1.out.trans (Wk.of_below (row := (Value.slice vo ks.length vc).ownBlock) hb5') (.inl rfl)
    have hws5 := hb5'.size
    clear hb5 hb5' hp5 hog
    go_wp2
    have hpq : w.heap.size ≠ q := by omega
    have hvp : v'.ownBlock ≠ some w.heap.size := HR1.out.ne (by omega) (fun e => by have := (hrl _ e).2; omega)
    have hrw : RowTo w (Value.slice vo ks.length vc) v' := RowTo.refl.trans HR1.out (by omega)
    have hs9 := (HS5.out.wrote hpq hvp (by omega) (.slice none 0 0) (.bool false)).wrote hpq hvp (by omega) (.slice go g.length gc) (.bool live)
    have hk9 := z_aC (z_aC HK5.out (Nat.le_refl _) (.slice none 0 0) (.bool false)) (Nat.le_refl _) (.slice go g.length gc) (.bool live)
    have hp9 := (HP5.out.wrote (.slice none 0 0) (.bool false)).wrote (.slice go g.length gc) (.bool live)
    have hgp : (Value.slice go g.length gc).ownBlock ≠ some w.heap.size := fun e => by have := (HOG.out.lt _ e).1; omega
    have ho9 := z_b (z_b HOG.out hgp (.slice none 0 0) (.bool false)) hgp (.slice go g.length gc) (.bool live)
    refine leaves_cons (f := 128) (args := #[.pointer (some ⟨q, 2, none⟩), .int .i64 ks.length]) (by simp) (by simp [go_sem]) ?_
    refine (z_cx q _ _ v' _ ks g base .returning _ (by simp at hlen; omega) hs9.obj hs9.own hs9.qb).mono ?_
    rintro e u' w3 ⟨rfl, v3, rfl, ho3, hw3, hk3, hb3⟩
    have hat' : at' = at_ + t.flat.length := by simp [Bl.flat] at hsum; omega
    obtain ⟨hpe, hend⟩ := z_h6 (wr := wr) (res := z_bA ks (decide (0 < boths)) t) hs9 hk9 hrw hp9 hpq hvp (by omega) (by simp [World.setCell]; omega) ho9 (fun k hk => (HS1.out.row_lt hk).2) hqlt1 (by rw [z_bA, HR.out]; simp [gOf]) ho3 hw3 hk3 hb3
    obtain ⟨r0, r1, _, _⟩ := hpe.cells
    rw [← hat']
    exact ⟨.tuple #[.agg #[.slice go g.length gc, .bool live], .nilIface], by simp [results, Tryz.results95, go_sem, r0, r1], hend⟩
   ·obtain ⟨h1, h2, _⟩ := z_a2 hD
    obtain ⟨ck, hbq⟩ := HS1.out.kind h1
    rw [h2] at ck
    have h3 : (at' : Int) < ls.length := by omega
    have hbl : b < wr.heap.size := by omega
    go_wp2_with fail
    go_quiet ((go_at_call 74; exact Calls.quiet_of_same (z_bp _ _)))
    go_wp2_with fail
    refine (z_d q 2 v' ks g base _ (by simp at hlen; omega) (HS1.out.below (z_aa (Below.refl _ _) nq)).obj.c2 (HS1.out.below (z_aa (Below.refl _ _) nq)).own).mono ?_
    rintro e W5 ⟨gv, rfl, hog, hb5⟩
    have hb5' : Below wr.heap.size wr W5 := (z_aa (Below.refl _ _) nq).trans hb5
    have HS5 : Hid (WkSt q base (some ⟨b, off, none⟩) cap ls W5 at' boths (ks ++ g) v') := HS1.out.below hb5'
    have hp5 := HP1.out.below hb5'
    have HP5 : Hid (PartB W5 w.heap.size (.slice none 0 0) (.bool false)) := hp5
    obtain ⟨x0, x1, g0, g1⟩ := hp5.cells
    obtain ⟨go, gc, rfl, hgc⟩ := z_aq hog
    have HOG : Hid (W5.ownsRow wr.heap.size 9 1 (.slice go g.length gc) g.length (strCells g)) := hog
    have HK5 : Hid (Wk q (Value.slice vo ks.length vc).ownBlock w W5) := HK1.out.trans (Wk.of_below (row := (Value.slice vo ks.length vc).ownBlock) hb5') (.inl rfl)
    have hws5 := hb5'.size
    clear hb5 hb5' hp5 hog
    go_wp2
    have hpq : w.heap.size ≠ q := by omega
    have hvp : v'.ownBlock ≠ some w.heap.size := HR1.out.ne (by omega) (fun e => by have := (hrl _ e).2; omega)
    have hrw : RowTo w (Value.slice vo ks.length vc) v' := RowTo.refl.trans HR1.out (by omega)
    have hs9 := (HS5.out.wrote hpq hvp (by omega) (.slice none 0 0) (.bool false)).wrote hpq hvp (by omega) (.slice go g.length gc) (.bool live)
    have hk9 := z_aC (z_aC HK5.out (Nat.le_refl _) (.slice none 0 0) (.bool false)) (Nat.le_refl _) (.slice go g.length gc) (.bool live)
    have hp9 := (HP5.out.wrote (.slice none 0 0) (.bool false)).wrote (.slice go g.length gc) (.bool live)
    have hgp : (Value.slice go g.length gc).ownBlock ≠ some w.heap.size := fun e => by have := (HOG.out.lt _ e).1; omega
    have ho9 := z_b (z_b HOG.out hgp (.slice none 0 0) (.bool false)) hgp (.slice go g.length gc) (.bool live)
    refine leaves_cons (f := 128) (args := #[.pointer (some ⟨q, 2, none⟩), .int .i64 ks.length]) (by simp) (by simp [go_sem]) ?_
    refine (z_cx q _ _ v' _ ks g base .returning _ (by simp at hlen; omega) hs9.obj hs9.own hs9.qb).mono ?_
    rintro e u' w3 ⟨rfl, v3, rfl, ho3, hw3, hk3, hb3⟩
    have hat' : at' = at_ + t.flat.length := by simp [Bl.flat] at hsum; omega
    obtain ⟨hpe, hend⟩ := z_h6 (wr := wr) (res := z_bA ks (decide (0 < boths)) t) hs9 hk9 hrw hp9 hpq hvp (by omega) (by simp [World.setCell]; omega) ho9 (fun k hk => (HS1.out.row_lt hk).2) hqlt1 (by rw [z_bA, HR.out]; simp [gOf]) ho3 hw3 hk3 hb3
    obtain ⟨r0, r1, _, _⟩ := hpe.cells
    rw [← hat']
    exact ⟨.tuple #[.agg #[.slice go g.length gc, .bool live], .nilIface], by simp [results, Tryz.results95, go_sem, r0, r1], hend⟩
  | true =>
   obtain ⟨h1, h2⟩ := z_bX HD1.out hnode
   have hclf : z_ae (z_au t').1 = false := z_cL hnode HW1.out
   obtain ⟨ck, hbq⟩ := HS1.out.kind h1
   rw [h2] at ck
   have h3 : (at' : Int) < ls.length := by omega
   have hbl : b < wr.heap.size := by omega
   have hpq : w.heap.size ≠ q := by omega
   have hvp : v'.ownBlock ≠ some w.heap.size := HR1.out.ne (by omega) (fun e => by have := (hrl _ e).2; omega)
   have HRW : Hid (RowTo w (Value.slice vo ks.length vc) v') := RowTo.refl.trans HR1.out (by omega)
   have hklen : ks.length + g.length ≤ 1000 := by simp at hlen; omega
   have hcome := HC1.out.trans (z_dV (ks ++ g) (decide (0 < boths)) live t' hnode)
   have HCM : Hid _ := hcome
   clear hcome
   go_wp2_with fail
   go_quiet ((go_at_call 74; exact Calls.quiet_of_same (z_bp _ _)))
   go_wp2_with fail
   have hsq := HS1.out.below (z_aa (Below.refl _ _) nq)
   refine (z_hi q (some ⟨b, off, none⟩) cap ls at' v' boths (ks ++ g) base live _ hsq.obj hsq.own (by simp; omega) h1 hl (by omega) hsq.linesW (HZ.out _ (List.getElem_mem h1)) hsq.env.env).mono ?_
   rw [h2]
   rintro e W2 ⟨ve, rfl, hb2, hres⟩
   have hb2' : Below wr.heap.size wr W2 := (z_aa (Below.refl _ _) nq).trans hb2
   have HS2 : Hid (WkSt q base (some ⟨b, off, none⟩) cap ls W2 at' boths (ks ++ g) v') := HS1.out.below hb2'
   have hp2 := HP1.out.below hb2'
   have HP2 : Hid (PartB W2 w.heap.size (.slice none 0 0) (.bool false)) := hp2
   obtain ⟨x0, x1, g0, g1⟩ := hp2.cells
   have HK2 : Hid (Wk q (Value.slice vo ks.length vc).ownBlock w W2) := HK1.out.trans (Wk.of_below (row := (Value.slice vo ks.length vc).ownBlock) hb2') (.inl rfl)
   have hws2 := hb2'.size
   clear hb2 hb2' hp2 hsq ck
   rcases hres with ⟨rfl, hok⟩ | ⟨⟨ln, cc, rfl, hcc⟩, hno⟩
   ·go_wp2_with fail
    refine (HLI.out t' rest at' boths (ks ++ g) htm hnode HW1.out HD1.out hbo1 hlen W2 v' HS2.out).mono ?_
    rintro e W3 ⟨hk3, hres3⟩
    have hp3 := HP2.out.wk hk3 hpq hvp
    have HP3 : Hid (PartB W3 w.heap.size (.slice none 0 0) (.bool false)) := hp3
    have HK3 : Hid (Wk q (Value.slice vo ks.length vc).ownBlock w W3) := HK2.out.trans hk3 HRW.out.or
    have hws3 := hk3.size
    obtain ⟨x0, x1, g0, g1⟩ := hp3.cells
    have hp3lt := hp3.lt
    clear hk3 hp3
    cases hnr : z_cu (ks ++ g) (decide (0 < boths)) t' with
    | none =>
     rw [hnr] at hres3
     obtain ⟨er, v2, at4, rfl, hec, hs3, hr3⟩ := hres3
     obtain ⟨tt, xx, rfl⟩ := hec.form
     have HEC : Hid (ErrC (.iface tt xx)) := hec
     have HS3 : Hid (WkSt q base (some ⟨b, off, none⟩) cap ls W3 at4 boths (ks ++ g) v2) := hs3
     have HN : Hid (z_bA ks (decide (0 < boths)) t = none) := by
      have := HCM.out
      rw [hok, hnr] at this
      show _ = _
      rw [z_bA, this]; rfl
     have hv2 := hr3.ne (k := w.heap.size) (by omega) hvp
     clear hs3 hec
     go_wp2
     have hs9 := (HS3.out.wrote hpq hv2 (by omega) (.slice none 0 0) (.bool false)).below ((Below.refl _ _).alloc (Nat.le_refl _) (.cells #[.slice none 0 0, .bool false] 138))
     have hk9 := (z_aC HK3.out (Nat.le_refl _) (.slice none 0 0) (.bool false)).trans (Wk.of_below (row := (Value.slice vo ks.length vc).ownBlock) ((Below.refl _ _).alloc (Nat.le_refl _) (.cells #[.slice none 0 0, .bool false] 138))) (.inl rfl)
     have hp9 := (HP3.out.wrote (.slice none 0 0) (.bool false)).below ((Below.refl _ _).alloc (Nat.le_refl _) (.cells #[.slice none 0 0, .bool false] 138))
     refine leaves_cons (f := 128) (args := #[.pointer (some ⟨q, 2, none⟩), .int .i64 ks.length]) (by simp) (by simp [go_sem]) ?_
     refine (z_cx q _ _ v2 _ ks g base .returning _ (by omega) hs9.obj hs9.own hs9.qb).mono ?_
     rintro e u' w3 ⟨rfl, v3, rfl, ho3, hw3, hk3, hb3⟩
     obtain ⟨hpe, hend⟩ := z_i0 (at2 := at_ + t.flat.length) hs9 hk9 (HRW.out.trans hr3 (by omega)) hp9 hpq hv2 HEC.out HN.out ho3 hw3 hk3 hb3
     obtain ⟨r0, r1, _, _⟩ := hpe.cells
     exact ⟨.tuple #[.agg #[.slice none 0 0, .bool false], .iface tt xx], by simp [results, Tryz.results95, go_sem, r0, r1], hend⟩
    | some r =>
     obtain ⟨g2, c⟩ := r
     rw [hnr] at hres3
     obtain ⟨gv2, v2, rfl, hs3, hr3, hg3, hsep3⟩ := hres3
     obtain ⟨g2o, g2c, rfl, hg2c⟩ := z_aq hg3
     have HS3 : Hid (WkSt q base (some ⟨b, off, none⟩) cap ls W3 (at' + z_ai t') boths (ks ++ g) v2) := hs3
     have HCN : Hid (z_al ks (decide (0 < boths)) true t = z_al (uniU (ks ++ g) g2) (decide (0 < boths)) c (z_aO t')) := by
      have := HCM.out
      rw [hok, hnr] at this
      exact this
     have hv2 := hr3.ne (k := w.heap.size) (by omega) hvp
     have hgl2 := z_lz hnr
     have hnl := z_b7 t'
     have hn1 : 1 ≤ z_ai t' := by cases t' <;> simp [z_ai, z_aR] at hnode ⊢
     have hgq : ∀ p, g2o = some p → p.block ≠ q ∧ some p.block ≠ v2.ownBlock := fun p hp => by
      have hown : (Value.slice g2o g2.length g2c).ownBlock = some p.block := by rw [hp]; rfl
      exact ⟨fun e => by have := (hg3.lt _ hown).1; omega, fun e => hsep3 _ hown e.symm⟩
     have HGQ : Hid (∀ p, g2o = some p → p.block ≠ q ∧ some p.block ≠ v2.ownBlock) := hgq
     have hv2n : v2.ownBlock ≠ some W3.heap.size := fun e => by have := (hs3.row_lt e).2; omega
     have hb4 : Below W3.heap.size W3 (W3.alloc (.cells #[.slice g2o g2.length g2c, .bool c] 138)) := (Below.refl _ _).alloc (Nat.le_refl _) _
     have hs4 := hs3.below hb4
     have hz4 : PartB (W3.alloc (.cells #[.slice g2o g2.length g2c, .bool c] 138)) W3.heap.size (.slice g2o g2.length g2c) (.bool c) := PartB.new _ _ _
     have hp4 := HP3.out.below hb4
     have hg4 := z_ax hg3 hb4
     have hk4 := HK3.out.trans (Wk.of_below (row := (Value.slice vo ks.length vc).ownBlock) hb4) (.inl rfl)
     have HRV2 : Hid (RowTo W1 (Value.slice vo ks.length vc) v2) := HR1.out.trans hr3 (by omega)
     have hq3lt := hs3.obj.lt
     clear hs3 hr3 hg3 hsep3 hgq
     go_wp2_with fail
     obtain ⟨W4, hW4⟩ : ∃ W4, W4 = (W3.alloc (.cells #[.slice g2o g2.length g2c, .bool c] 138)) := ⟨_, rfl⟩
     have hsz4 : W4.heap.size = W3.heap.size + 1 := by rw [hW4]; simp
     rw [← hW4] at hb4 hs4 hz4 hp4 hg4 hk4 ⊢
     clear hW4
     have hd4 : Below W4.heap.size W4 W4.drew := (Below.refl _ _).drew
     have HS4 : Hid (WkSt q base (some ⟨b, off, none⟩) cap ls W4.drew (at' + z_ai t') boths (ks ++ g) v2) := hs4.below hd4
     have HP4 : Hid (PartB W4 w.heap.size (.slice none 0 0) (.bool false)) := hp4
     have HZ4 : Hid (PartB W4 W3.heap.size (.slice g2o g2.length g2c) (.bool c)) := hz4
     have HK4 : Hid (Wk q (Value.slice vo ks.length vc).ownBlock w W4) := hk4
     have HG4 : Hid (StrsAt 0 W4.drew.heap.size W4.drew g2o g2) := by
      obtain ⟨_, _, eg, _, hgi⟩ := StrsAt.of_owns (z_ax hg4 hd4)
      cases eg
      exact hgi.mono (Nat.zero_le _) (Nat.le_refl _)
     obtain ⟨z0, z1, _, _⟩ := hz4.cells
     have hx1 : W3.heap.size < W4.drew.heap.size := by show W3.heap.size < W4.heap.size; omega
     have hx2 : W3.heap.size ≠ q := by omega
     have hx3 : some W3.heap.size ≠ v2.ownBlock := fun e => hv2n e.symm
     clear hb4 hs4 hz4 hp4 hg4 hk4
     go_region_held3 (fun w' => w'.cell? ⟨W3.heap.size, 0, none⟩ = some (.slice g2o g2.length g2c)) (first | (go_keep; done) | (rw [hk5.cell hx1 hx2 hx3 0]; assumption))
      (first | (go_at_call 94; refine (z_dZ q _ _ v2 _ (ks ++ g) g2 g2o g2c base _ HS4.out.obj HS4.out.own HS4.out.qb HS4.out.bw HG4.out (fun _ => HGQ.out) (by simp; omega)).mono ?_; rintro e W5 ⟨v4, rfl, ho5, hw5, hk5, hr5⟩))
     have hk45 : Wk q v2.ownBlock W4 W5 := (Wk.of_below (q := q) (row := v2.ownBlock) hd4).trans hk5 (.inl rfl)
     obtain ⟨g3, hg3, hn3⟩ := z_eT g2 (ks ++ g)
     have hul := z_bz g2 (ks ++ g)
     have hlen3 : (ks ++ (g ++ g3)).length ≤ (ks ++ g).length + g2.length := by rw [← List.append_assoc, ← hg3]; exact hul
     have HZ5 := HZ4.out.wk hk45 hx2 hv2n
     obtain ⟨y0, y1, _, _⟩ := HZ5.cells
     have HP5 : Hid (PartB W5 w.heap.size (.slice none 0 0) (.bool false)) := HP4.out.wk hk45 hpq hv2
     have HS5 : Hid (WkSt q base (some ⟨b, off, none⟩) cap ls W5 (at' + z_ai t') boths (ks ++ (g ++ g3)) v4) := by
      have := HS4.out.to hk5 ho5 hw5
      rw [hg3, List.append_assoc] at this
      exact this
     have HK5 : Hid (Wk q (Value.slice vo ks.length vc).ownBlock w W5) := HK4.out.trans hk45 (RowTo.refl.trans HRV2.out (by omega)).or
     have HR5 : Hid (RowTo W1 (Value.slice vo ks.length vc) v4) := HRV2.out.trans hr5 (by show W1.heap.size ≤ W4.heap.size; omega)
     have HC5 : Hid (z_al ks (decide (0 < boths)) true t = z_al (ks ++ (g ++ g3)) (decide (0 < boths)) c (z_aO t')) := by
      have := HCN.out
      rw [hg3, List.append_assoc] at this
      exact this
     have HD5 : Hid (ls.drop (at' + z_ai t') = (z_aO t').flat ++ rest) := z_cK HD1.out
     have HW5 : Hid (z_aO t').wf := z_ed HW1.out
     have hsz5 : w.heap.size < W5.heap.size := by have := hk45.size; omega
     have hm1 : atOf q W5 = at' + z_ai t' := HS5.out.atOf
     have hm0 : atOf q wr = at' := HS1.out.atOf
     clear hk45 hk5 ho5 hw5 hr5 HZ5
     go_wp2
     go_roundw
     case rel => exact ⟨z_aO t', at' + z_ai t', g ++ g3, v4, c, rfl, HS5, HK5, HR5, hsz5, HP5, HD5, HW5, by omega, by omega, HC5, by omega, by omega⟩
     case measure => rw [hm1, hm0]; omega
   ·have HN : Hid (z_bA ks (decide (0 < boths)) t = none) := by show _ = _; rw [z_bA, HCM.out, hno]; rfl
    go_wp2
    have hs9 := HS2.out.wrote hpq hvp (by omega) (.slice none 0 0) (.bool false)
    have hk9 := z_aC HK2.out (Nat.le_refl _) (.slice none 0 0) (.bool false)
    have hp9 := HP2.out.wrote (.slice none 0 0) (.bool false)
    refine leaves_cons (f := 128) (args := #[.pointer (some ⟨q, 2, none⟩), .int .i64 ks.length]) (by simp) (by simp [go_sem]) ?_
    refine (z_cx q _ _ v' _ ks g base .returning _ (by omega) hs9.obj hs9.own hs9.qb).mono ?_
    rintro e u' w3 ⟨rfl, v3, rfl, ho3, hw3, hk3, hb3⟩
    obtain ⟨hpe, hend⟩ := z_i0 (at2 := at_ + t.flat.length) hs9 hk9 HRW.out hp9 hpq hvp (ErrC.base _ ⟨ln, cc, rfl, hcc⟩) HN.out ho3 hw3 hk3 hb3
    obtain ⟨r0, r1, _, _⟩ := hpe.cells
    exact ⟨.tuple #[.agg #[.slice none 0 0, .bool false], .iface 96 (.agg #[.int .i64 ln, .int .i64 cc])], by simp [results, Tryz.results95, go_sem, r0, r1], hend⟩
end
section
open Go.RowKit
theorem z_ms {t : Bl} (h : z_aR t = true) : 1 ≤ t.flat.length := by cases t <;> simp [Bl.flat, z_aR] at h ⊢
theorem z_lX (q base : Nat) (ao : Option Addr) (cap : Nat) (ls : List Ln) (hl : ls.length ≤ 60) (hcap : ls.length ≤ cap) (hl0 : 0 < ls.length) (hz : ∀ l ∈ ls, LnSz l) (n : Nat) : z_jg n q base ao cap ls := by
 induction n with
 | zero => exact z_hX 0 q base ao cap ls hl hcap hl0 hz (fun t rest at_ boths ks ht hn => by have := z_ms hn; omega)
 | succ n ih => exact z_hX (n + 1) q base ao cap ls hl hcap hl0 hz (fun t rest at_ boths ks ht hn hw hd hb hk => z_lT n q base ao cap ls hl hcap hz ih t rest at_ boths ks ht hn hw hd hb hk)
def z_bC (l0 : Ln) (t : Bl) : Bool := match z_al (uniU [] l0.2.args) false true t with
 | some (_, false) => true
 | _ => false
theorem z_e3 (ao : Option Addr) (cap : Nat) (l0 : Ln) (t : Bl) (w : World) (hl : (l0 :: t.flat).length ≤ 60) (hcap : (l0 :: t.flat).length ≤ cap) (hw : t.wf) (h0 : l0.2.args.length ≤ 100) (hz : ∀ l ∈ l0 :: t.flat, LnSz l) (hi : LinesAt w.heap.size w ao (l0 :: t.flat)) (he : Env w) :
  Calls Tryz.prog 62 #[.slice ao (l0 :: t.flat).length cap] w fun e w' => ∃ v, e = .returned v ∧ Below w.heap.size w w' ∧ ((v = .nilIface ∧ z_bC l0 t = true) ∨ (ErrC v ∧ z_bC l0 t = false)) := by
 obtain ⟨ls, hls⟩ : ∃ ls, ls = l0 :: t.flat := ⟨_, rfl⟩
 have hlen1 : ls.length = 1 + t.flat.length := by rw [hls]; simp; omega
 rw [← hls] at hl hcap hz hi ⊢
 have hl0 : 0 < ls.length := by omega
 have hd : ls.drop 1 = t.flat ++ [] := by rw [hls]; simp
 have HI : Hid (LinesAt w.heap.size w ao ls) := hi
 have HE : Hid (Env w) := he
 have HZ : Hid (∀ l ∈ ls, LnSz l) := hz
 obtain ⟨b, off, rfl, hB, aoA, capA, hcA, q0, q1, q2, q3, q4, hA⟩ := hi 0 hl0
 have hl00 : ls[0] = l0 := by simp [hls]
 rw [hl00] at q0 q1 q2 q3 q4 hA hcA
 have HA : Hid (StrsAt 0 w.heap.size w aoA l0.2.args) := hA
 have q3' : w.cell? ⟨b, off + 3, none⟩ = some (.slice aoA l0.2.args.length capA) := by simpa using q3
 have HLS : Hid (ls = l0 :: t.flat) := hls
 have HLN : Hid (ls.length = 1 + t.flat.length) := hlen1
 have HD : Hid (ls.drop 1 = t.flat ++ []) := hd
 have htl : t.flat.length ≤ 60 := by omega
 clear hi he hz q0 q1 q2 q3 q4 hA hls hlen1 hd hl00
 go_enter Tryz.func62, Tryz.ntmps62
 go_wp2_with fail
 obtain ⟨W1, hW1⟩ : ∃ W1, W1 = (w.alloc (.cells #[.slice (some ⟨b, off, none⟩) ls.length cap, .int .i64 1, .slice none 0 0, .int .i64 0] 135)) := ⟨_, rfl⟩
 have hb1 : Below w.heap.size w W1 := by rw [hW1]; exact (Below.refl _ _).alloc (Nat.le_refl _) _
 have hsz1 : W1.heap.size = w.heap.size + 1 := by rw [hW1]; simp
 have ho1 : WObj W1 w.heap.size (.slice (some ⟨b, off, none⟩) ls.length cap) (.int .i64 (1 : Nat)) (.slice none 0 0) (.int .i64 (0 : Nat)) := by rw [hW1]; exact heap_alloc_new w _
 rw [← hW1]
 clear hW1
 have hs1 : WkSt w.heap.size (w.heap.size + 1) (some ⟨b, off, none⟩) cap ls W1.drew 1 0 [] (.slice none 0 0) :=
  ⟨ho1, World.ownsRow_nil _ _ _ _, HI.out.below (hb1.drew), ⟨w, HE.out, Nat.le_refl _, hb1.drew⟩, by omega, by show w.heap.size + 1 ≤ W1.heap.size; omega⟩
 have HS1 : Hid (WkSt w.heap.size (w.heap.size + 1) (some ⟨b, off, none⟩) cap ls W1.drew 1 0 [] (.slice none 0 0)) := hs1
 have c3 := (hb1.cell (p := ⟨b, off + 3, none⟩) hB).trans q3'
 have HA1 : Hid (StrsAt 0 W1.drew.heap.size W1.drew aoA l0.2.args) := HA.out.later hb1.drew
 have hx1 : b < W1.drew.heap.size := by show b < W1.heap.size; omega
 have hx2 : b ≠ w.heap.size := by omega
 have hx3 : some b ≠ (Value.slice none 0 0).ownBlock := by simp [Value.ownBlock]
 have HGQ : Hid (0 < l0.2.args.length → ∀ p, aoA = some p → p.block ≠ w.heap.size ∧ some p.block ≠ (Value.slice none 0 0).ownBlock) := fun hn p hp => by
  obtain ⟨b', off', e, hB', _⟩ := HA.out 0 hn
  rw [hp] at e
  cases e
  exact ⟨by show b' ≠ _; omega, by simp [Value.ownBlock]⟩
 clear hs1 ho1 q3'
 go_region_held3 (fun w' => w'.cell? ⟨b, off + 3, none⟩ = some (.slice aoA l0.2.args.length capA)) (first | (go_keep; done) | (rw [hk5.cell hx1 hx2 hx3]; assumption))
  (first | (go_at_call 94; refine (z_dZ w.heap.size _ _ (.slice none 0 0) _ [] l0.2.args aoA capA (w.heap.size + 1) _ HS1.out.obj HS1.out.own HS1.out.qb HS1.out.bw HA1.out HGQ.out (by simp; omega)).mono ?_; rintro e W5 ⟨v4, rfl, ho5, hw5, hk5, hr5⟩))
 have HS5 : Hid (WkSt w.heap.size (w.heap.size + 1) (some ⟨b, off, none⟩) cap ls W5 1 0 (uniU [] l0.2.args) v4) := HS1.out.to hk5 ho5 hw5
 have hb5 : Below w.heap.size w W5 := hb1.drew.trans (hk5.belowq HS1.out)
 have HB5 : Hid (Below w.heap.size w W5) := hb5
 have hul := z_bz l0.2.args []
 have hB5 := z_lX w.heap.size (w.heap.size + 1) (some ⟨b, off, none⟩) cap ls hl hcap hl0 HZ.out t.flat.length t [] 1 0 (uniU [] l0.2.args) (Nat.le_refl _) hw HD.out (.inl rfl) (by omega) (by simp at hul; omega)
 have HBK : Hid (z_aZ w.heap.size (w.heap.size + 1) (some ⟨b, off, none⟩) cap ls 95 1 (1 + t.flat.length) 0 (uniU [] l0.2.args) (z_bA (uniU [] l0.2.args) (decide (0 < 0)) t)) := hB5
 have hsz5 : w.heap.size < W5.heap.size := by have := hk5.size; have : W1.drew.heap.size = W1.heap.size := rfl; omega
 clear hb5 hk5 ho5 hw5 hr5 hB5
 go_wp2_with fail
 refine (HBK.out W5 v4 HS5.out).mono ?_
 rintro e W6 ⟨hk6, hres⟩
 have HB6 : Hid (Below w.heap.size w W6) := HB5.out.trans (hk6.belowq HS5.out)
 have hsz6 := hk6.size
 clear hk6
 cases hpt : z_bA (uniU [] l0.2.args) (decide (0 < 0)) t with
 | none =>
  rw [hpt] at hres
  obtain ⟨er, v', at3, rfl, hec, _, _⟩ := hres
  have HN : Hid (z_bC l0 t = false) := by
   have := z_de hpt
   show _ = _
   rw [z_bC]
   simp only [Nat.lt_irrefl, decide_false] at this
   rw [this]
  obtain ⟨tt, xx, rfl⟩ := hec.form
  have HEC : Hid (ErrC (.iface tt xx)) := hec
  clear hec
  go_wp2
  go_ret
  exact ⟨_, rfl, HB6.out.alloc (by omega) _, .inr ⟨HEC.out, HN.out⟩⟩
 | some r =>
  obtain ⟨g, c⟩ := r
  rw [hpt] at hres
  obtain ⟨gv, v', rfl, _, _, hg, _⟩ := hres
  obtain ⟨go, gc, rfl, _⟩ := z_aq hg
  have HC : Hid (z_bC l0 t = !c) := by
   have := (z_cj hpt).1
   show _ = _
   rw [z_bC]
   simp only [Nat.lt_irrefl, decide_false] at this
   rw [this]
   cases c <;> rfl
  clear hg
  cases c with
  | true =>
   go_wp2
   go_ret
   exact ⟨_, rfl, HB6.out.alloc (by omega) _, .inr ⟨ErrC.base _ ⟨_, _, rfl, by decide⟩, HC.out⟩⟩
  | false =>
   go_wp2
   go_ret
   exact ⟨_, rfl, HB6.out.alloc (by omega) _, .inl ⟨rfl, HC.out⟩⟩
end
end Go.Proofs.YtlbjjbolbopfmaaGreatDoor
