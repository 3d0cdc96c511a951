import Derived.Test.YtlbjjbolbopfmaaGreatDoorJ36
namespace Go.Proofs.YtlbjjbolbopfmaaGreatDoor
set_option maxHeartbeats 16000000
set_option maxRecDepth 1000000
set_option linter.unusedVariables false
section
open Go.RowKit
theorem z_jM {p : Nat} {b off : Nat} {ls : List Ln} {w : World} {n : Nat} (h : LinesAt p w (some ⟨b, off, none⟩) ls) (hn : n < ls.length) : w.cell? ⟨b, off + n * 5, none⟩ = some (.int .i64 ls[n].1) ∧ b < p := by
 obtain ⟨b', off', e, hB, aoA, capA, hcA, q0, _⟩ := h n hn
 cases e
 exact ⟨q0, hB⟩
theorem z_bH (p : Nat) (w : World) : w.grownBy w (some p) := z_bt (Below.refl _ _)
theorem z_f0 (ao bo : Option Addr) (ca cb n : Nat) (xs ys : List ByteArray) (w : World) (hn : n = xs.length) (hla : xs.length ≤ 1048576) (hlb : ys.length ≤ 1048576) (ha : StrsAt 0 w.heap.size w ao xs) (hb : StrsAt 0 w.heap.size w bo ys) :
  Calls Tryz.prog 142 #[.slice ao n ca, .slice bo ys.length cb] w fun e w' => ∃ v, e = .returned v ∧ Below w.heap.size w w' ∧ z_bd w.heap.size w'.heap.size w' v (comm xs ys) := by
 subst hn; exact z_ek ao bo ca cb xs ys w hla hlb ha hb
def NewK (ks : List ByteArray) (r : Option (List ByteArray × Bool)) : Prop := ∀ k c, r = some (k, c) → ∃ g, k = ks ++ g ∧ News ks g ∧ g.length ≤ 100
theorem z_l7 (p : Nat) (lo : Option Addr) (cap : Nat) (ls : List Ln) (at_ mid : Nat) (k : Int) (br : Bool) (ks : List ByteArray) (rp : Option (List ByteArray × Bool)) (hl : ls.length ≤ 60) (hat : at_ < mid) (hmid : mid < ls.length) (h11 : ls[mid].1 = 11)
  (hk9 : (k == 9) = false) (hkl : ks.length ≤ 1000) (hn : NewK ks rp) (H : z_d7 p lo cap ls (at_ + 1) mid br ks rp) : CkInn p lo cap ls at_ (mid + 1) k br ks (rp.map fun _ => (ks, true)) := by
 intro w ko ck ln hc hli hks
 have HH : Hid (z_d7 p lo cap ls (at_ + 1) mid br ks rp) := H
 have HNw : Hid (NewK ks rp) := hn
 have HC : Hid (CObj w p (.slice lo ls.length cap) at_ ln 0) := hc
 have HKs : Hid (StrsAt (p + 1) w.heap.size w ko ks) := hks
 have HLi : Hid (LinesAt p w lo ls) := hli
 obtain ⟨b, off, rfl, _⟩ := hli 0 (by omega)
 have c1 := hc.c1
 have f1 := hc.fz 1
 have hlt := hc.lt
 have e1 : ((at_ + 1 : Nat) : Int) = (at_ : Int) + 1 := by omega
 have e2 : ((mid + 1 : Nat) : Int) = (mid : Int) + 1 := by omega
 have HC1 : Hid (CObj (w.setCell ⟨p, 1, none⟩ (.int .i64 ((at_ : Int) + 1))) p (.slice (some ⟨b, off, none⟩) ls.length cap) (at_ + 1 : Nat) ln 0) := by have h := hc.at ((at_ : Int) + 1); rw [← e1] at h ⊢; exact h
 have HG1 : Hid (w.grownBy (w.setCell ⟨p, 1, none⟩ (.int .i64 ((at_ : Int) + 1))) (some p)) := z_aj p 1 _
 have HE2 : Hid (((mid + 1 : Nat) : Int) = (mid : Int) + 1) := e2
 have hk8 : (k == 8) = true ∨ (k == 8) = false := by cases (k == 8) <;> simp
 have hm3 : (mid : Int) < ls.length := by omega
 clear hc hli hks H hn e1 e2
 cases br
 all_goals
  go_enter Tryz.func103, Tryz.ntmps103
  go_wp2_with fail
  refine (HH.out _ ko ck ln HC1.out (HLi.out.below (z_cp HG1.out hlt)) (z_ba HKs.out HG1.out)).mono ?_
  rintro e w2 ⟨hg2, hres⟩
  have HG2 : Hid (w.grownBy w2 (some p)) := z_ah HG1.out hg2 (.inl rfl)
  have hw2 : w.heap.size ≤ w2.heap.size := HG2.out.size
  have HKs2 : Hid (StrsAt (p + 1) w2.heap.size w2 ko ks) := z_ba HKs.out HG2.out
  have HLi2 : Hid (LinesAt p w2 (some ⟨b, off, none⟩) ls) := HLi.out.below (z_cp HG2.out hlt)
  clear hg2
  cases hrp : rp with
  | none =>
   rw [hrp] at hres
   obtain ⟨xo, xn, xc, y, a, ln2, fc, rfl, hc2, hf⟩ := hres
   have HC2 : Hid (CObj w2 p (.slice (some ⟨b, off, none⟩) ls.length cap) a ln2 fc) := hc2
   have d1 := hc2.c1
   have d3 := hc2.c3
   have hlt2 := hc2.lt
   have hf2 : (fc != 0) = true := by rw [bne, hf]; rfl
   clear hc2
   go_wp2_with fail
   go_quiet (fail)
   go_wp2_with fail
   go_ret2
   refine ⟨z_aW HG2.out (z_aa (Below.refl _ _) _), ?_⟩
   rw [hrp]
   exact ⟨_, _, _, _, a, ln2, fc, rfl, HC2.out.below (z_aa (Below.refl _ _) _), hf⟩
  | some r =>
   obtain ⟨k1, l1⟩ := r
   rw [hrp] at hres
   obtain ⟨ao, ac, ln2, rfl, hc2, hs2⟩ := hres
   obtain ⟨g, rfl, hnew, hgl⟩ := HNw.out _ _ hrp
   have HNews : Hid (News ks g) := hnew
   have HC2 : Hid (CObj w2 p (.slice (some ⟨b, off, none⟩) ls.length cap) mid ln2 0) := hc2
   have HS2 : Hid (StrsAt (p + 1) w2.heap.size w2 ao (ks ++ g)) := hs2
   have d0 := hc2.c0
   have d1 := hc2.c1
   have d3 := hc2.c3
   have g1 := hc2.fz 1
   have hlt2 := hc2.lt
   obtain ⟨ck2, hbp⟩ := z_jM HLi2.out hmid
   rw [h11] at ck2
   have hbw : b < w2.heap.size := by omega
   clear hc2 hs2 hnew
   go_wp2_with fail
   go_quiet (fail)
   have HC3 : Hid (CObj ((w2.drewN nq).setCell ⟨p, 1, none⟩ (.int .i64 ((mid : Int) + 1))) p (.slice (some ⟨b, off, none⟩) ls.length cap) (mid + 1 : Nat) ln2 0) := by
    have h := (HC2.out.below (z_aa (Below.refl _ _) nq)).at ((mid : Int) + 1)
    rw [← HE2.out] at h ⊢; exact h
   have HG3 : Hid (w.grownBy ((w2.drewN nq).setCell ⟨p, 1, none⟩ (.int .i64 ((mid : Int) + 1))) (some p)) := z_a9 (z_aW HG2.out (z_aa (Below.refl _ _) nq)) 1 _
   rcases hk8 with hk8 | hk8
   ·go_wp2_with fail
    go_ret2
    refine ⟨HG3.out, ?_⟩
    rw [hrp]
    exact ⟨ko, ck, ln2, rfl, HC3.out, z_ba HKs.out HG3.out⟩
   ·cases l1 with
    | false =>
     go_wp2_with fail
     go_ret2
     refine ⟨HG3.out, ?_⟩
     rw [hrp]
     exact ⟨ko, ck, ln2, rfl, HC3.out, z_ba HKs.out HG3.out⟩
    | true =>
     have HSA : Hid (StrsAt (p + 1) ((w2.drewN nq).setCell ⟨p, 1, none⟩ (.int .i64 ((mid : Int) + 1))).heap.size ((w2.drewN nq).setCell ⟨p, 1, none⟩ (.int .i64 ((mid : Int) + 1))) ao (ks ++ g)) := z_ba HS2.out (z_a9 (z_aW (z_bH p w2) (z_aa (Below.refl _ _) nq)) 1 _)
     have HSB : Hid (StrsAt (p + 1) ((w2.drewN nq).setCell ⟨p, 1, none⟩ (.int .i64 ((mid : Int) + 1))).heap.size ((w2.drewN nq).setCell ⟨p, 1, none⟩ (.int .i64 ((mid : Int) + 1))) ko ks) := z_ba HKs.out HG3.out
     go_wp2_with fail
     refine (z_f0 ao ko ac ck (ks.length + g.length) (ks ++ g) ks _ (by simp) (by simp; omega) (by omega) (HSA.out.mono (Nat.zero_le _) (Nat.le_refl _)) (HSB.out.mono (Nat.zero_le _) (Nat.le_refl _))).mono ?_
     rintro e w4 ⟨v, rfl, hb4, vo, vc, rfl, hvc, hs4⟩
     rw [z_kC ks g HNews.out] at hs4 ⊢
     have HG4 : Hid (w.grownBy w4 (some p)) := z_aW HG3.out hb4
     have HC4 : Hid (CObj w4 p (.slice (some ⟨b, off, none⟩) ls.length cap) (mid + 1 : Nat) ln2 0) := HC3.out.below hb4
     have HS4 : Hid (StrsAt (p + 1) w4.heap.size w4 vo ks) := hs4.mono (by simp [World.setCell]; omega) (Nat.le_refl _)
     clear hb4 hs4
     go_wp2_with fail
     go_ret2
     refine ⟨HG4.out, ?_⟩
     rw [hrp]
     exact ⟨vo, vc, ln2, rfl, HC4.out, HS4.out⟩
end
section
open Go.RowKit
def z_hC (r1 r2 : Option (List ByteArray × Bool)) : Option (List ByteArray × Bool) := match r1 with
 | none => none
 | some (k1, c1) => match r2 with
  | none => none
  | some (k2, c2) => if c1 = false then some (k2, c2) else if c2 = false then some (k1, true) else some (comm k1 k2, true)
theorem z_mm (p : Nat) (lo : Option Addr) (cap : Nat) (ls : List Ln) (at_ mid fin : Nat) (k : Int) (br : Bool) (ks : List ByteArray) (r1 r2 : Option (List ByteArray × Bool)) (hl : ls.length ≤ 60) (hat : at_ < mid) (hmf : mid < fin) (hfin : fin < ls.length) (h11 : (ls[mid].1 == 11) = false)
  (hk8 : (k == 8) = false) (hk9 : (k == 9) = false) (hkl : ks.length ≤ 1000) (hn1 : NewK ks r1) (hn2 : NewK ks r2) (H1 : z_d7 p lo cap ls (at_ + 1) mid br ks r1) (H2 : z_d7 p lo cap ls (mid + 1) fin br ks r2) : CkInn p lo cap ls at_ (fin + 1) k br ks (z_hC r1 r2) := by
 intro w ko ck ln hc hli hks
 have HH1 : Hid (z_d7 p lo cap ls (at_ + 1) mid br ks r1) := H1
 have HH2 : Hid (z_d7 p lo cap ls (mid + 1) fin br ks r2) := H2
 have HN1 : Hid (NewK ks r1) := hn1
 have HN2 : Hid (NewK ks r2) := hn2
 have HC : Hid (CObj w p (.slice lo ls.length cap) at_ ln 0) := hc
 have HKs : Hid (StrsAt (p + 1) w.heap.size w ko ks) := hks
 have HLi : Hid (LinesAt p w lo ls) := hli
 obtain ⟨b, off, rfl, _⟩ := hli 0 (by omega)
 have c1 := hc.c1
 have f1 := hc.fz 1
 have hlt := hc.lt
 have e1 : ((at_ + 1 : Nat) : Int) = (at_ : Int) + 1 := by omega
 have HC1 : Hid (CObj (w.setCell ⟨p, 1, none⟩ (.int .i64 ((at_ : Int) + 1))) p (.slice (some ⟨b, off, none⟩) ls.length cap) (at_ + 1 : Nat) ln 0) := by have h := hc.at ((at_ : Int) + 1); rw [← e1] at h ⊢; exact h
 have HG1 : Hid (w.grownBy (w.setCell ⟨p, 1, none⟩ (.int .i64 ((at_ : Int) + 1))) (some p)) := z_aj p 1 _
 have HEm : Hid (((mid + 1 : Nat) : Int) = (mid : Int) + 1) := by show _ = _; omega
 have HEf : Hid (((fin + 1 : Nat) : Int) = (fin : Int) + 1) := by show _ = _; omega
 have hm3 : (mid : Int) < ls.length := by omega
 have hmid : mid < ls.length := by omega
 have h11' : (ls[mid].1 != 11) = true := by rw [bne, h11]; rfl
 clear hc hli hks H1 H2 hn1 hn2 e1
 cases br
 all_goals
  go_enter Tryz.func103, Tryz.ntmps103
  go_wp2_with fail
  refine (HH1.out _ ko ck ln HC1.out (HLi.out.below (z_cp HG1.out hlt)) (z_ba HKs.out HG1.out)).mono ?_
  rintro e w2 ⟨hg2, hres⟩
  have HG2 : Hid (w.grownBy w2 (some p)) := z_ah HG1.out hg2 (.inl rfl)
  have hw2 : w.heap.size ≤ w2.heap.size := HG2.out.size
  have HKs2 : Hid (StrsAt (p + 1) w2.heap.size w2 ko ks) := z_ba HKs.out HG2.out
  have HLi2 : Hid (LinesAt p w2 (some ⟨b, off, none⟩) ls) := HLi.out.below (z_cp HG2.out hlt)
  clear hg2
  cases hrp : r1 with
  | none =>
   rw [hrp] at hres
   obtain ⟨xo, xn, xc, y, a, ln2, fc, rfl, hc2, hf⟩ := hres
   have HC2 : Hid (CObj w2 p (.slice (some ⟨b, off, none⟩) ls.length cap) a ln2 fc) := hc2
   have d1 := hc2.c1
   have d3 := hc2.c3
   have hlt2 := hc2.lt
   have hf2 : (fc != 0) = true := by rw [bne, hf]; rfl
   clear hc2
   go_wp2_with fail
   go_quiet (fail)
   go_wp2_with fail
   go_ret2
   refine ⟨z_aW HG2.out (z_aa (Below.refl _ _) _), ?_⟩
   rw [hrp]
   exact ⟨_, _, _, _, a, ln2, fc, rfl, HC2.out.below (z_aa (Below.refl _ _) _), hf⟩
  | some r =>
   obtain ⟨k1, l1⟩ := r
   rw [hrp] at hres
   obtain ⟨ao, ac, ln2, rfl, hc2, hs2⟩ := hres
   obtain ⟨g1, rfl, hnew1, hgl1⟩ := HN1.out _ _ hrp
   have HNews1 : Hid (News ks g1) := hnew1
   have HC2 : Hid (CObj w2 p (.slice (some ⟨b, off, none⟩) ls.length cap) mid ln2 0) := hc2
   have HS2 : Hid (StrsAt (p + 1) w2.heap.size w2 ao (ks ++ g1)) := hs2
   have d0 := hc2.c0
   have d1 := hc2.c1
   have d3 := hc2.c3
   have gz1 := hc2.fz 1
   have hlt2 := hc2.lt
   obtain ⟨ck2, hbp⟩ := z_jM HLi2.out hmid
   have hbw : b < w2.heap.size := by omega
   obtain ⟨mk, hmk⟩ : ∃ mk, mk = ls[mid].1 := ⟨_, rfl⟩
   rw [← hmk] at ck2
   have h11m : (mk != 11) = true := by rw [hmk]; exact h11'
   clear hc2 hs2 hnew1 hmk
   go_wp2_with fail
   go_quiet (fail)
   have HC3 : Hid (CObj ((w2.drewN nq).setCell ⟨p, 1, none⟩ (.int .i64 ((mid : Int) + 1))) p (.slice (some ⟨b, off, none⟩) ls.length cap) (mid + 1 : Nat) ln2 0) := by
    have h := (HC2.out.below (z_aa (Below.refl _ _) nq)).at ((mid : Int) + 1)
    rw [← HEm.out] at h ⊢; exact h
   have HGa : Hid (w2.grownBy ((w2.drewN nq).setCell ⟨p, 1, none⟩ (.int .i64 ((mid : Int) + 1))) (some p)) := z_a9 (z_aW (z_bH p w2) (z_aa (Below.refl _ _) nq)) 1 _
   have HG3 : Hid (w.grownBy ((w2.drewN nq).setCell ⟨p, 1, none⟩ (.int .i64 ((mid : Int) + 1))) (some p)) := z_ah HG2.out HGa.out (.inl rfl)
   go_wp2_with fail
   refine (HH2.out _ ko ck ln2 HC3.out (HLi2.out.below (z_cp HGa.out hlt2)) (z_ba HKs2.out HGa.out)).mono ?_
   rintro e w3 ⟨hg3, hres3⟩
   have HGb : Hid (w2.grownBy w3 (some p)) := z_ah HGa.out hg3 (.inl rfl)
   have HG4 : Hid (w.grownBy w3 (some p)) := z_ah HG2.out HGb.out (.inl rfl)
   have hw3 : w.heap.size ≤ w3.heap.size := HG4.out.size
   have HS3 : Hid (StrsAt (p + 1) w3.heap.size w3 ao (ks ++ g1)) := z_ba HS2.out HGb.out
   clear hg3 d0 d1 d3 gz1 ck2
   cases hrq : r2 with
   | none =>
    rw [hrq] at hres3
    obtain ⟨xo, xn, xc, y, a, ln3, fc, rfl, hc3, hf⟩ := hres3
    have HC4 : Hid (CObj w3 p (.slice (some ⟨b, off, none⟩) ls.length cap) a ln3 fc) := hc3
    have d1 := hc3.c1
    have d3 := hc3.c3
    have hlt3 := hc3.lt
    have hf2 : (fc != 0) = true := by rw [bne, hf]; rfl
    clear hc3
    go_wp2_with fail
    go_ret2
    refine ⟨HG4.out, ?_⟩
    rw [hrp, hrq]
    exact ⟨_, _, _, _, a, ln3, fc, rfl, HC4.out, hf⟩
   | some r =>
    obtain ⟨k2, l2⟩ := r
    rw [hrq] at hres3
    obtain ⟨bo, bc, ln3, rfl, hc3, hs3⟩ := hres3
    obtain ⟨g2, rfl, hnew2, hgl2⟩ := HN2.out _ _ hrq
    have HC4 : Hid (CObj (w3.setCell ⟨p, 1, none⟩ (.int .i64 ((fin : Int) + 1))) p (.slice (some ⟨b, off, none⟩) ls.length cap) (fin + 1 : Nat) ln3 0) := by
     have h := hc3.at ((fin : Int) + 1)
     rw [← HEf.out] at h ⊢; exact h
    have HG5 : Hid (w3.grownBy (w3.setCell ⟨p, 1, none⟩ (.int .i64 ((fin : Int) + 1))) (some p)) := z_aj p 1 _
    have HG6 : Hid (w.grownBy (w3.setCell ⟨p, 1, none⟩ (.int .i64 ((fin : Int) + 1))) (some p)) := z_ah HG4.out HG5.out (.inl rfl)
    have HSA : Hid (StrsAt (p + 1) (w3.setCell ⟨p, 1, none⟩ (.int .i64 ((fin : Int) + 1))).heap.size (w3.setCell ⟨p, 1, none⟩ (.int .i64 ((fin : Int) + 1))) ao (ks ++ g1)) := z_ba HS3.out HG5.out
    have HSB : Hid (StrsAt (p + 1) (w3.setCell ⟨p, 1, none⟩ (.int .i64 ((fin : Int) + 1))).heap.size (w3.setCell ⟨p, 1, none⟩ (.int .i64 ((fin : Int) + 1))) bo (ks ++ g2)) := z_ba hs3 HG5.out
    have d1 := hc3.c1
    have d3 := hc3.c3
    have gz1 := hc3.fz 1
    have hlt3 := hc3.lt
    clear hc3 hs3 hnew2
    have el1 : Hid (ks.length + g1.length = (ks ++ g1).length) := by show _ = _; simp
    have el2 : Hid (ks.length + g2.length = (ks ++ g2).length) := by show _ = _; simp
    cases l1 with
    | false =>
     go_wp2_with fail
     go_ret2
     refine ⟨HG6.out, ?_⟩
     rw [hrp, hrq]
     exact ⟨bo, bc, ln3, by rw [← el2.out] <;> rfl, HC4.out, HSB.out⟩
    | true =>
     cases l2 with
     | false =>
      go_wp2_with fail
      go_ret2
      refine ⟨HG6.out, ?_⟩
      rw [hrp, hrq]
      exact ⟨ao, ac, ln3, by rw [← el1.out] <;> rfl, HC4.out, HSA.out⟩
     | true =>
      go_wp2_with fail
      have HCm := z_f0 ao bo ac bc (ks.length + g1.length) (ks ++ g1) (ks ++ g2) (w3.setCell ⟨p, 1, none⟩ (.int .i64 ((fin : Int) + 1))) (by simp) (by simp; omega) (by simp; omega) (HSA.out.mono (Nat.zero_le _) (Nat.le_refl _)) (HSB.out.mono (Nat.zero_le _) (Nat.le_refl _))
      rw [← el2.out] at HCm
      refine HCm.mono ?_
      clear HCm
      rintro e w4 ⟨v, rfl, hb4, vo, vc, rfl, hvc, hs4⟩
      have HG7 : Hid (w.grownBy w4 (some p)) := z_aW HG6.out hb4
      have HC5 : Hid (CObj w4 p (.slice (some ⟨b, off, none⟩) ls.length cap) (fin + 1 : Nat) ln3 0) := HC4.out.below hb4
      have HS4 : Hid (StrsAt (p + 1) w4.heap.size w4 vo (comm (ks ++ g1) (ks ++ g2))) := hs4.mono (by simp [World.setCell]; omega) (Nat.le_refl _)
      clear hb4 hs4
      go_wp2_with fail
      go_ret2
      refine ⟨HG7.out, ?_⟩
      rw [hrp, hrq]
      exact ⟨vo, vc, ln3, rfl, HC5.out, HS4.out⟩
end
section
open Go.RowKit
def z_mA (r1 r2 : Option (List ByteArray × Bool)) (cl : Bool) : Option (List ByteArray × Bool) := match r1 with
 | none => none
 | some (k1, _) => match r2 with
  | none => none
  | some (k2, _) => if cl = true then none else some (uniU k1 k2, true)
theorem z_jB (ls : List Ln) : (z_aY ls).length ≤ ls.length := by
 have h := z_bz (z_ay (ls.map (·.2.to))) []
 have h2 := List.length_filter_le (fun s => decide (s.size ≠ 0)) (ls.map (·.2.to))
 unfold z_aY
 unfold z_ay at h ⊢
 simp at h h2 ⊢
 omega
theorem z_gk (ls : List Ln) (ha : ∀ l ∈ ls, l.2.args.length ≤ 100) : (z_bl ls).length ≤ ls.length + ls.length * 100 := by
 have h := z_bz (ls.flatMap argN) (z_aY ls)
 have h1 := z_jB ls
 have h2 : (ls.flatMap argN).length ≤ ls.length * 100 := by
  clear h h1
  induction ls with
  | nil => simp
  | cons l r ih =>
   have := ih (fun x hx => ha x (by simp [hx]))
   have h3 := ha l (by simp)
   have h4 := List.length_filter_le z_ac l.2.args
   rw [List.flatMap_cons, List.length_append, List.length_cons]
   unfold argN at *
   omega
 unfold z_bl
 omega
theorem z_kR (a b : List ByteArray) : (comm a b).length ≤ a.length := List.length_filter_le _ _
section
variable {ao : Option Addr} {ca n : Nat} {ls : List Ln} {w : World}
theorem z_j9 (hn : n = ls.length) (hl : ls.length ≤ 60) (hi : LinesAt w.heap.size w ao ls) :
  Calls Tryz.prog 143 #[.slice ao n ca] w fun e w' => ∃ so sc, e = .returned (.slice so (z_aY ls).length sc) ∧ Below w.heap.size w w' ∧ StrsAt 0 w'.heap.size w' so (z_aY ls) := by
 subst hn
 refine (z_f8 ao ca ls w hl hi).mono ?_
 rintro e w' ⟨v, rfl, hb, so, sc, rfl, _, hs⟩
 exact ⟨so, sc, rfl, hb, hs.mono (Nat.zero_le _) (Nat.le_refl _)⟩
theorem z_e4 (hn : n = ls.length) (hl : ls.length ≤ 60) (hi : LinesAt w.heap.size w ao ls) :
  Calls Tryz.prog 145 #[.slice ao n ca] w fun e w' => ∃ so sc, e = .returned (.slice so (z_bm ls).length sc) ∧ Below w.heap.size w w' ∧ StrsAt 0 w'.heap.size w' so (z_bm ls) := by
 subst hn
 refine (z_gr ao ca ls w hl hi).mono ?_
 rintro e w' ⟨v, rfl, hb, so, sc, rfl, _, hs⟩
 exact ⟨so, sc, rfl, hb, hs.mono (Nat.zero_le _) (Nat.le_refl _)⟩
theorem z_fy (hn : n = ls.length) (hl : ls.length ≤ 60) (hi : LinesAt w.heap.size w ao ls) (hz : ∀ l ∈ ls, LnSz l) (ha : ∀ l ∈ ls, l.2.args.length ≤ 100) :
  Calls Tryz.prog 144 #[.slice ao n ca] w fun e w' => ∃ so sc, e = .returned (.slice so (z_bl ls).length sc) ∧ Below w.heap.size w w' ∧ StrsAt 0 w'.heap.size w' so (z_bl ls) := by
 subst hn
 refine (z_g7 ao ca ls w hl hi hz ha).mono ?_
 rintro e w' ⟨v, rfl, hb, so, sc, rfl, _, hs⟩
 exact ⟨so, sc, rfl, hb, hs.mono (Nat.zero_le _) (Nat.le_refl _)⟩
end
theorem z_ef (ao bo : Option Addr) (ca cb : Nat) (xs ys : List ByteArray) (w : World) (hla : xs.length ≤ 1048576) (hlb : ys.length ≤ 1048576) (ha : StrsAt 0 w.heap.size w ao xs) (hb : StrsAt 0 w.heap.size w bo ys) :
  Calls Tryz.prog 142 #[.slice ao xs.length ca, .slice bo ys.length cb] w fun e w' => ∃ so sc, e = .returned (.slice so (comm xs ys).length sc) ∧ Below w.heap.size w w' := by
 refine (z_ek ao bo ca cb xs ys w hla hlb ha hb).mono ?_
 rintro e w' ⟨v, rfl, hb, so, sc, rfl, _, hs⟩
 exact ⟨so, sc, rfl, hb⟩
theorem z_e7 (ao bo : Option Addr) (ca cb n m : Nat) (xs ys : List ByteArray) (w : World) (hn : n = xs.length) (hm : m = ys.length) (hla : xs.length ≤ 1048576) (hlb : ys.length ≤ 1048576) (ha : StrsAt 0 w.heap.size w ao xs) (hb : StrsAt 0 w.heap.size w bo ys) :
  Calls Tryz.prog 104 #[.slice ao n ca, .slice bo m cb] w fun e w' => ∃ so sc, e = .returned (.slice so (uniU xs ys).length sc) ∧ Below w.heap.size w w' ∧ StrsAt w.heap.size w'.heap.size w' so (uniU xs ys) := by
 subst hn hm
 refine (z_cS ao bo ca cb xs ys w hla hlb ha hb).mono ?_
 rintro e w' ⟨v, rfl, hb, so, sc, rfl, _, hs⟩
 exact ⟨so, sc, rfl, hb, hs⟩
theorem z_kD (p : Nat) (lo : Option Addr) (cap : Nat) (ls : List Ln) (at_ mid fin : Nat) (br : Bool) (ks : List ByteArray) (r1 r2 : Option (List ByteArray × Bool)) (X Y : List Ln) (cl : Bool) (hl : ls.length ≤ 60) (hcap : ls.length ≤ cap) (hat : at_ < mid) (hmf : mid < fin) (hfin : fin < ls.length) (h11 : (ls[mid].1 == 11) = false)
  (hX : (ls.drop at_).take (mid - at_) = X) (hY : (ls.drop mid).take (fin - mid) = Y) (hcl : decide (0 < z_gh X Y) = cl) (hz : ∀ l ∈ ls, LnSz l) (ha : ∀ l ∈ ls, l.2.args.length ≤ 100)
  (hkl : ks.length ≤ 1000) (hn1 : NewK ks r1) (hn2 : NewK ks r2) (H1 : z_d7 p lo cap ls (at_ + 1) mid true ks r1) (H2 : z_d7 p lo cap ls (mid + 1) fin true ks r2) : CkInn p lo cap ls at_ (fin + 1) 9 br ks (z_mA r1 r2 cl) := by
 intro w ko ck ln hc hli hks
 have HH1 : Hid (z_d7 p lo cap ls (at_ + 1) mid true ks r1) := H1
 have HH2 : Hid (z_d7 p lo cap ls (mid + 1) fin true ks r2) := H2
 have HN1 : Hid (NewK ks r1) := hn1
 have HN2 : Hid (NewK ks r2) := hn2
 have HC : Hid (CObj w p (.slice lo ls.length cap) at_ ln 0) := hc
 have HKs : Hid (StrsAt (p + 1) w.heap.size w ko ks) := hks
 have HLi : Hid (LinesAt p w lo ls) := hli
 obtain ⟨b, off, rfl, _⟩ := hli 0 (by omega)
 have c1 := hc.c1
 have f1 := hc.fz 1
 have hlt := hc.lt
 have e1 : ((at_ + 1 : Nat) : Int) = (at_ : Int) + 1 := by omega
 have HC1 : Hid (CObj (w.setCell ⟨p, 1, none⟩ (.int .i64 ((at_ : Int) + 1))) p (.slice (some ⟨b, off, none⟩) ls.length cap) (at_ + 1 : Nat) ln 0) := by have h := hc.at ((at_ : Int) + 1); rw [← e1] at h ⊢; exact h
 have HG1 : Hid (w.grownBy (w.setCell ⟨p, 1, none⟩ (.int .i64 ((at_ : Int) + 1))) (some p)) := z_aj p 1 _
 have HEm : Hid (((mid + 1 : Nat) : Int) = (mid : Int) + 1) := by show _ = _; omega
 have HEf : Hid (((fin + 1 : Nat) : Int) = (fin : Int) + 1) := by show _ = _; omega
 have hm3 : (mid : Int) < ls.length := by omega
 have hmid : mid < ls.length := by omega
 have h11' : (ls[mid].1 != 11) = true := by rw [bne, h11]; rfl
 have HXl : Hid (mid - at_ = X.length) := by show _ = _; rw [← hX]; simp; omega
 have HYl : Hid (fin - mid = Y.length) := by show _ = _; rw [← hY]; simp; omega
 have HXin : Hid (∀ l ∈ X, LnSz l ∧ l.2.args.length ≤ 100) := fun l h => by rw [← hX] at h; have := List.mem_of_mem_drop (List.mem_of_mem_take h); exact ⟨hz l this, ha l this⟩
 have HYin : Hid (∀ l ∈ Y, LnSz l ∧ l.2.args.length ≤ 100) := fun l h => by rw [← hY] at h; have := List.mem_of_mem_drop (List.mem_of_mem_take h); exact ⟨hz l this, ha l this⟩
 have HXa : Hid (∀ W : World, LinesAt p W (some ⟨b, off, none⟩) ls → p ≤ W.heap.size → LinesAt W.heap.size W (some ⟨b, off + at_ * 5, none⟩) X) := fun W h hp => by rw [← hX]; exact ((h.drop at_).take _).mono hp
 have HYa : Hid (∀ W : World, LinesAt p W (some ⟨b, off, none⟩) ls → p ≤ W.heap.size → LinesAt W.heap.size W (some ⟨b, off + mid * 5, none⟩) Y) := fun W h hp => by rw [← hY]; exact ((h.drop mid).take _).mono hp
 have HXY : Hid (X.length ≤ 60 ∧ Y.length ≤ 60) := ⟨by have := HXl.out; omega, by have := HYl.out; omega⟩
 have HCl : Hid (decide (0 < z_gh X Y) = cl) := hcl
 clear hc hli hks H1 H2 hn1 hn2 e1 hz ha hX hY hcl
 cases br
 all_goals
  go_enter Tryz.func103, Tryz.ntmps103
  go_wp2_with fail
  refine (HH1.out _ ko ck ln HC1.out (HLi.out.below (z_cp HG1.out hlt)) (z_ba HKs.out HG1.out)).mono ?_
  rintro e w2 ⟨hg2, hres⟩
  have HG2 : Hid (w.grownBy w2 (some p)) := z_ah HG1.out hg2 (.inl rfl)
  have hw2 : w.heap.size ≤ w2.heap.size := HG2.out.size
  have HKs2 : Hid (StrsAt (p + 1) w2.heap.size w2 ko ks) := z_ba HKs.out HG2.out
  have HLi2 : Hid (LinesAt p w2 (some ⟨b, off, none⟩) ls) := HLi.out.below (z_cp HG2.out hlt)
  clear hg2
  cases hrp : r1 with
  | none =>
   rw [hrp] at hres
   obtain ⟨xo, xn, xc, y, a, ln2, fc, rfl, hc2, hf⟩ := hres
   have HC2 : Hid (CObj w2 p (.slice (some ⟨b, off, none⟩) ls.length cap) a ln2 fc) := hc2
   have d1 := hc2.c1
   have d3 := hc2.c3
   have hlt2 := hc2.lt
   have hf2 : (fc != 0) = true := by rw [bne, hf]; rfl
   clear hc2
   go_wp2_with fail
   go_quiet (fail)
   go_wp2_with fail
   go_ret2
   refine ⟨z_aW HG2.out (z_aa (Below.refl _ _) _), ?_⟩
   rw [hrp]
   exact ⟨_, _, _, _, a, ln2, fc, rfl, HC2.out.below (z_aa (Below.refl _ _) _), hf⟩
  | some r =>
   obtain ⟨k1, l1⟩ := r
   rw [hrp] at hres
   obtain ⟨ao, ac, ln2, rfl, hc2, hs2⟩ := hres
   obtain ⟨g1, rfl, hnew1, hgl1⟩ := HN1.out _ _ hrp
   have HC2 : Hid (CObj w2 p (.slice (some ⟨b, off, none⟩) ls.length cap) mid ln2 0) := hc2
   have HS2 : Hid (StrsAt (p + 1) w2.heap.size w2 ao (ks ++ g1)) := hs2
   have d0 := hc2.c0
   have d1 := hc2.c1
   have d3 := hc2.c3
   have gz1 := hc2.fz 1
   have hlt2 := hc2.lt
   obtain ⟨ck2, hbp⟩ := z_jM HLi2.out hmid
   have hbw : b < w2.heap.size := by omega
   obtain ⟨mk, hmk⟩ : ∃ mk, mk = ls[mid].1 := ⟨_, rfl⟩
   rw [← hmk] at ck2
   have h11m : (mk != 11) = true := by rw [hmk]; exact h11'
   clear hc2 hs2 hnew1 hmk
   go_wp2_with fail
   go_quiet (fail)
   have HC3 : Hid (CObj ((w2.drewN nq).setCell ⟨p, 1, none⟩ (.int .i64 ((mid : Int) + 1))) p (.slice (some ⟨b, off, none⟩) ls.length cap) (mid + 1 : Nat) ln2 0) := by
    have h := (HC2.out.below (z_aa (Below.refl _ _) nq)).at ((mid : Int) + 1)
    rw [← HEm.out] at h ⊢; exact h
   have HGa : Hid (w2.grownBy ((w2.drewN nq).setCell ⟨p, 1, none⟩ (.int .i64 ((mid : Int) + 1))) (some p)) := z_a9 (z_aW (z_bH p w2) (z_aa (Below.refl _ _) nq)) 1 _
   go_wp2_with fail
   refine (HH2.out _ ko ck ln2 HC3.out (HLi2.out.below (z_cp HGa.out hlt2)) (z_ba HKs2.out HGa.out)).mono ?_
   rintro e w3 ⟨hg3, hres3⟩
   have HGb : Hid (w2.grownBy w3 (some p)) := z_ah HGa.out hg3 (.inl rfl)
   have HG4 : Hid (w.grownBy w3 (some p)) := z_ah HG2.out HGb.out (.inl rfl)
   have hw3 : w.heap.size ≤ w3.heap.size := HG4.out.size
   have HS3 : Hid (StrsAt (p + 1) w3.heap.size w3 ao (ks ++ g1)) := z_ba HS2.out HGb.out
   clear hg3 d0 d1 d3 gz1 ck2
   cases hrq : r2 with
   | none =>
    rw [hrq] at hres3
    obtain ⟨xo, xn, xc, y, a, ln3, fc, rfl, hc3, hf⟩ := hres3
    have HC4 : Hid (CObj w3 p (.slice (some ⟨b, off, none⟩) ls.length cap) a ln3 fc) := hc3
    have d1 := hc3.c1
    have d3 := hc3.c3
    have hlt3 := hc3.lt
    have hf2 : (fc != 0) = true := by rw [bne, hf]; rfl
    clear hc3
    go_wp2_with fail
    go_ret2
    refine ⟨HG4.out, ?_⟩
    rw [hrp, hrq]
    exact ⟨_, _, _, _, a, ln3, fc, rfl, HC4.out, hf⟩
   | some r =>
    obtain ⟨k2, l2⟩ := r
    rw [hrq] at hres3
    obtain ⟨bo, bc, ln3, rfl, hc3, hs3⟩ := hres3
    obtain ⟨g2, rfl, hnew2, hgl2⟩ := HN2.out _ _ hrq
    obtain ⟨W, hW⟩ : ∃ W, W = w3.setCell ⟨p, 1, none⟩ (.int .i64 ((fin : Int) + 1)) := ⟨_, rfl⟩
    have hG5 : w3.grownBy W (some p) := by rw [hW]; exact z_aj p 1 _
    have HC4 : Hid (CObj W p (.slice (some ⟨b, off, none⟩) ls.length cap) (fin + 1 : Nat) ln3 0) := by
     have h := hc3.at ((fin : Int) + 1)
     rw [← HEf.out] at h; rw [hW, ← HEf.out]; exact h
    have HG6 : Hid (w.grownBy W (some p)) := z_ah HG4.out hG5 (.inl rfl)
    have HSA : Hid (StrsAt (p + 1) W.heap.size W ao (ks ++ g1)) := z_ba HS3.out hG5
    have HSB : Hid (StrsAt (p + 1) W.heap.size W bo (ks ++ g2)) := z_ba hs3 hG5
    have HLW : Hid (LinesAt p W (some ⟨b, off, none⟩) ls) := HLi.out.below (z_cp HG6.out hlt)
    have hpW : p < W.heap.size := HC4.out.lt
    have hwW : w.heap.size ≤ W.heap.size := HG6.out.size
    have hW' : Hid (w3.setCell ⟨p, 1, none⟩ (.int .i64 ((fin : Int) + 1)) = W) := hW.symm
    have d0 := hc3.c0
    have d1 := hc3.c1
    have d3 := hc3.c3
    have gz1 := hc3.fz 1
    have hlt3 := hc3.lt
    have v0 := HC4.out.c0
    have i1 : (at_ : Int) ≤ mid := by omega
    have i2 : (mid : Int) ≤ cap := by omega
    have i3 : (mid : Int) ≤ fin := by omega
    have i4 : (fin : Int) ≤ cap := by omega
    have i5 : (at_ : Int) < cap := by omega
    have i6 : (mid : Int) < cap := by omega
    have n1 : ¬ cap = at_ := by omega
    have n2 : ¬ cap = mid := by omega
    clear hc3 hs3 hnew2 hW hG5
    go_wp2_with fail
    rw [hW'.out]
    refine (z_j9 HXl.out HXY.out.1 (HXa.out W (HLW.out.below ((Below.refl _ _ : Below W.heap.size W W).mono (Nat.le_of_lt hpW))) (Nat.le_trans (Nat.le_of_lt hpW) (Below.refl _ _ : Below W.heap.size W W).size))).mono ?_
    rintro e u1 ⟨s1, q1, rfl, hb1, hs1⟩
    have HU1 : Hid (Below W.heap.size W u1) := (Below.refl _ _ : Below W.heap.size W W).trans (hb1.mono (Below.refl _ _ : Below W.heap.size W W).size)
    have HS1' : Hid (StrsAt 0 u1.heap.size u1 s1 (z_aY X)) := hs1
    clear hb1 hs1
    go_wp2_with fail
    refine (z_fy HYl.out HXY.out.2 (HYa.out u1 (HLW.out.below ((HU1.out : Below W.heap.size W u1).mono (Nat.le_of_lt hpW))) (Nat.le_trans (Nat.le_of_lt hpW) (HU1.out : Below W.heap.size W u1).size)) (fun l h => (HYin.out l h).1) (fun l h => (HYin.out l h).2)).mono ?_
    rintro e u2 ⟨s2, q2, rfl, hb2, hs2⟩
    have HU2 : Hid (Below W.heap.size W u2) := (HU1.out : Below W.heap.size W u1).trans (hb2.mono (HU1.out : Below W.heap.size W u1).size)
    have HS2' : Hid (StrsAt 0 u2.heap.size u2 s2 (z_bl Y)) := hs2
    have HS1b : Hid (StrsAt 0 u2.heap.size u2 s1 (z_aY X)) := HS1'.out.later hb2
    clear hb2 hs2
    go_wp2_with fail
    have hla3 := z_dF X
    have hlb3 := z_gk Y (fun l h => (HYin.out l h).2)
    have hxy3 := HXY.out
    refine (z_ef s1 s2 q1 q2 (z_aY X) (z_bl Y) u2 (by omega) (by omega) HS1b.out HS2'.out).mono ?_
    rintro e u3 ⟨s3, q3, rfl, hb3⟩
    have HU3 : Hid (Below W.heap.size W u3) := HU2.out.trans (hb3.mono HU2.out.size)
    have hlc3 := z_eK (z_aY X) (z_bl Y)
    obtain ⟨m3, hm3⟩ : ∃ m3, m3 = (comm (z_aY X) (z_bl Y)).length := ⟨_, rfl⟩
    rw [← hm3] at hlc3 ⊢
    have HM3 : Hid (m3 = (comm (z_aY X) (z_bl Y)).length) := hm3
    have hmb3 : m3 ≤ 100 := by omega
    clear hb3 hm3 hla3 hlb3 hxy3 hlc3
    go_wp2_with fail
    refine (z_j9 HYl.out HXY.out.2 (HYa.out u3 (HLW.out.below ((HU3.out : Below W.heap.size W u3).mono (Nat.le_of_lt hpW))) (Nat.le_trans (Nat.le_of_lt hpW) (HU3.out : Below W.heap.size W u3).size))).mono ?_
    rintro e u4 ⟨s4, q4, rfl, hb4, hs4⟩
    have HU4 : Hid (Below W.heap.size W u4) := (HU3.out : Below W.heap.size W u3).trans (hb4.mono (HU3.out : Below W.heap.size W u3).size)
    have HS4' : Hid (StrsAt 0 u4.heap.size u4 s4 (z_aY Y)) := hs4
    clear hb4 hs4
    go_wp2_with fail
    refine (z_fy HXl.out HXY.out.1 (HXa.out u4 (HLW.out.below ((HU4.out : Below W.heap.size W u4).mono (Nat.le_of_lt hpW))) (Nat.le_trans (Nat.le_of_lt hpW) (HU4.out : Below W.heap.size W u4).size)) (fun l h => (HXin.out l h).1) (fun l h => (HXin.out l h).2)).mono ?_
    rintro e u5 ⟨s5, q5, rfl, hb5, hs5⟩
    have HU5 : Hid (Below W.heap.size W u5) := (HU4.out : Below W.heap.size W u4).trans (hb5.mono (HU4.out : Below W.heap.size W u4).size)
    have HS5' : Hid (StrsAt 0 u5.heap.size u5 s5 (z_bl X)) := hs5
    have HS4b : Hid (StrsAt 0 u5.heap.size u5 s4 (z_aY Y)) := HS4'.out.later hb5
    clear hb5 hs5
    go_wp2_with fail
    have hla6 := z_dF Y
    have hlb6 := z_gk X (fun l h => (HXin.out l h).2)
    have hxy6 := HXY.out
    refine (z_ef s4 s5 q4 q5 (z_aY Y) (z_bl X) u5 (by omega) (by omega) HS4b.out HS5'.out).mono ?_
    rintro e u6 ⟨s6, q6, rfl, hb6⟩
    have HU6 : Hid (Below W.heap.size W u6) := HU5.out.trans (hb6.mono HU5.out.size)
    have hlc6 := z_eK (z_aY Y) (z_bl X)
    obtain ⟨m6, hm6⟩ : ∃ m6, m6 = (comm (z_aY Y) (z_bl X)).length := ⟨_, rfl⟩
    rw [← hm6] at hlc6 ⊢
    have HM6 : Hid (m6 = (comm (z_aY Y) (z_bl X)).length) := hm6
    have hmb6 : m6 ≤ 100 := by omega
    clear hb6 hm6 hla6 hlb6 hxy6 hlc6
    go_wp2_with fail
    refine (z_e4 HXl.out HXY.out.1 (HXa.out u6 (HLW.out.below ((HU6.out : Below W.heap.size W u6).mono (Nat.le_of_lt hpW))) (Nat.le_trans (Nat.le_of_lt hpW) (HU6.out : Below W.heap.size W u6).size))).mono ?_
    rintro e u7 ⟨s7, q7, rfl, hb7, hs7⟩
    have HU7 : Hid (Below W.heap.size W u7) := (HU6.out : Below W.heap.size W u6).trans (hb7.mono (HU6.out : Below W.heap.size W u6).size)
    have HS7' : Hid (StrsAt 0 u7.heap.size u7 s7 (z_bm X)) := hs7
    clear hb7 hs7
    go_wp2_with fail
    refine (z_e4 HYl.out HXY.out.2 (HYa.out u7 (HLW.out.below ((HU7.out : Below W.heap.size W u7).mono (Nat.le_of_lt hpW))) (Nat.le_trans (Nat.le_of_lt hpW) (HU7.out : Below W.heap.size W u7).size))).mono ?_
    rintro e u8 ⟨s8, q8, rfl, hb8, hs8⟩
    have HU8 : Hid (Below W.heap.size W u8) := (HU7.out : Below W.heap.size W u7).trans (hb8.mono (HU7.out : Below W.heap.size W u7).size)
    have HS8' : Hid (StrsAt 0 u8.heap.size u8 s8 (z_bm Y)) := hs8
    have HS7b : Hid (StrsAt 0 u8.heap.size u8 s7 (z_bm X)) := HS7'.out.later hb8
    clear hb8 hs8
    go_wp2_with fail
    have hla9 := z_fx X
    have hlb9 := z_fx Y
    have hxy9 := HXY.out
    refine (z_ef s7 s8 q7 q8 (z_bm X) (z_bm Y) u8 (by omega) (by omega) HS7b.out HS8'.out).mono ?_
    rintro e u9 ⟨s9, q9, rfl, hb9⟩
    have HU9 : Hid (Below W.heap.size W u9) := HU8.out.trans (hb9.mono HU8.out.size)
    have hlc9 := z_eK (z_bm X) (z_bm Y)
    obtain ⟨m9, hm9⟩ : ∃ m9, m9 = (comm (z_bm X) (z_bm Y)).length := ⟨_, rfl⟩
    rw [← hm9] at hlc9 ⊢
    have HM9 : Hid (m9 = (comm (z_bm X) (z_bm Y)).length) := hm9
    have hmb9 : m9 ≤ 100 := by omega
    clear hb9 hm9 hla9 hlb9 hxy9 hlc9
    have HSum : Hid (z_gh X Y = m3 + m6 + m9) := by show _ = _; rw [HM3.out, HM6.out, HM9.out]; rfl
    have HCW : Hid (CObj u9 p (.slice (some ⟨b, off, none⟩) ls.length cap) (fin + 1 : Nat) ln3 0) := HC4.out.below HU9.out
    have HGW : Hid (w.grownBy u9 (some p)) := z_aW HG6.out HU9.out
    have HSA9 : Hid (StrsAt (p + 1) u9.heap.size u9 ao (ks ++ g1)) := z_ba HSA.out (z_aW (z_bH p W) HU9.out)
    have HSB9 : Hid (StrsAt (p + 1) u9.heap.size u9 bo (ks ++ g2)) := z_ba HSB.out (z_aW (z_bH p W) HU9.out)
    have hwu : w.heap.size ≤ u9.heap.size := HGW.out.size
    have x1 := HCW.out.c1
    have x3 := HCW.out.c3
    have xf := HCW.out.fz 1
    have hlt9 := HCW.out.lt
    by_cases hpos : 0 < m3 + m6 + m9
    ·have hct : cl = true := by rw [← HCl.out, HSum.out]; exact decide_eq_true hpos
     have HCT : Hid (cl = true) := hct
     have hpos' : (0 : Int) < (m3 : Int) + m6 + m9 := by omega
     have HCV : Hid (CObj (u9.setCell ⟨p, 1, none⟩ (.int .i64 mid)) p (.slice (some ⟨b, off, none⟩) ls.length cap) mid ln3 0) := HCW.out.at (mid : Int)
     clear hct
     go_wp2_with fail
     refine (z_cl p _ mid ln3 5 _ HCV.out (by omega)).mono ?_
     rintro e u10 ⟨rfl, hc10, hg10⟩
     have HC10 : Hid (CObj u10 p (.slice (some ⟨b, off, none⟩) ls.length cap) mid ((mid : Int) + 1) 5) := hc10
     have HG10 : Hid (u9.grownBy u10 (some p)) := z_ah (z_aj p 1 _) hg10 (.inl rfl)
     clear hc10 hg10
     go_wp2_with fail
     refine (z_e7 ao bo ac bc (ks.length + g1.length) (ks.length + g2.length) (ks ++ g1) (ks ++ g2) u10 (by simp) (by simp) (by simp; omega) (by simp; omega) ((z_ba HSA9.out HG10.out).mono (Nat.zero_le _) (Nat.le_refl _)) ((z_ba HSB9.out HG10.out).mono (Nat.zero_le _) (Nat.le_refl _))).mono ?_
     rintro e u11 ⟨so, sc, rfl, hb11, _⟩
     have HG11 : Hid (w.grownBy u11 (some p)) := z_aW (z_ah HGW.out HG10.out (.inl rfl)) hb11
     have HC11 : Hid (CObj u11 p (.slice (some ⟨b, off, none⟩) ls.length cap) mid ((mid : Int) + 1) 5) := HC10.out.below hb11
     clear hb11
     go_wp2_with fail
     go_ret2
     refine ⟨HG11.out, ?_⟩
     rw [hrp, hrq, HCT.out]
     exact ⟨_, _, _, _, _, _, 5, rfl, HC11.out, rfl⟩
    ·have hct : cl = false := by rw [← HCl.out, HSum.out]; exact decide_eq_false hpos
     have HCT : Hid (cl = false) := hct
     have hpos' : ¬ (0 : Int) < (m3 : Int) + m6 + m9 := by omega
     clear hct
     go_wp2_with fail
     refine (z_e7 ao bo ac bc (ks.length + g1.length) (ks.length + g2.length) (ks ++ g1) (ks ++ g2) u9 (by simp) (by simp) (by simp; omega) (by simp; omega) (HSA9.out.mono (Nat.zero_le _) (Nat.le_refl _)) (HSB9.out.mono (Nat.zero_le _) (Nat.le_refl _))).mono ?_
     rintro e u11 ⟨so, sc, rfl, hb11, hs11⟩
     have HG11 : Hid (w.grownBy u11 (some p)) := z_aW HGW.out hb11
     have HC11 : Hid (CObj u11 p (.slice (some ⟨b, off, none⟩) ls.length cap) (fin + 1 : Nat) ln3 0) := HCW.out.below hb11
     have HS11 : Hid (StrsAt (p + 1) u11.heap.size u11 so (uniU (ks ++ g1) (ks ++ g2))) := hs11.mono (by omega) (Nat.le_refl _)
     clear hb11 hs11
     go_wp2_with fail
     go_ret2
     refine ⟨HG11.out, ?_⟩
     rw [hrp, hrq, HCT.out]
     exact ⟨so, sc, ln3, rfl, HC11.out, HS11.out⟩
end
end Go.Proofs.YtlbjjbolbopfmaaGreatDoor
