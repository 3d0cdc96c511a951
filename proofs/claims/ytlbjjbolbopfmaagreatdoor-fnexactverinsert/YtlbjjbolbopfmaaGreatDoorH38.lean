import Derived.Test.YtlbjjbolbopfmaaGreatDoorH37
import Derived.Test.YtlbjjbolbopfmaaGreatDoorH35
namespace Go.Proofs.YtlbjjbolbopfmaaGreatDoor
set_option maxHeartbeats 4000000
set_option maxRecDepth 1000000
set_option linter.unusedVariables false
section
open Go.RowKit
theorem swap_try_a (b off : Nat) (bo : Option Addr) (cb : Nat) (ls ms : List Ln) (f t : Nat) (name : ByteArray) (w : World) (hcap : ls.length ≤ t) (hf : 1 ≤ f) (hft : f ≤ t) (ht : t ≤ ls.length) (hl : ls.length ≤ 1048576) (hl2 : ms.length ≤ 1048576) (hcx : f < t)
  (hnb : bo = none → cb = 0) (hname : name.size ≤ 1048576) (hz : ∀ l ∈ ls, LnSz l) (hzm : ∀ l ∈ ms, LnSz l) (hi : LinesAt w.heap.size w (some ⟨b, off, none⟩) ls) (hj : LinesAt w.heap.size w bo ms) (he : Env w) (h0 : CheckC 0 ls) :
  Calls Tryz.prog 21 #[.slice (some ⟨b, off, none⟩) ls.length t, .int .i64 f, .int .i64 t, .string name, .slice bo ms.length cb] w (SwapE w ls f t name ms) := by
 have HI : Hid (LinesAt w.heap.size w (some ⟨b, off, none⟩) ls) := hi
 have HJ : Hid (LinesAt w.heap.size w bo ms) := hj
 have HZ : Hid (∀ l ∈ ls, LnSz l) := hz
 have HE : Hid (Env w) := he
 have H0 : Hid (CheckC 0 ls) := h0
 have HZ2 : Hid (∀ l ∈ ms, LnSz l) := hzm
 have HNB : Hid (bo = none → cb = 0) := hnb
 clear hi hj hz he h0 hnb hzm
 have hb1 : ¬ (f : Int) < 1 := by omega
 have hb2 : ¬ (t : Int) < (f : Int) := by omega
 have hb3 : ¬ (t : Int) > (ls.length : Int) := by omega
 go_enter Tryz.func21, Tryz.ntmps21
 go_wp2_with fail
 refine (flowCheck_any (some ⟨b, off, none⟩) t ls w hcap hl HI.out HZ.out HE.out).mono ?_
 rintro e w1 ⟨fa, fb, rfl, hbl, hck⟩
 have hfb : fb = 0 := (checkC_same H0.out hck).1 rfl
 subst hfb
 have HB1 : Hid (Below w.heap.size w w1) := hbl
 clear hbl hck
 have hfld : ∀ (a b : Int) (w : World), (Instr.field 43 (.agg #[.int .i64 a, .int .i64 b]) 1).run Tryz.prog w = .ok (.int .i64 b) w := Tryz.fieldCode2
 have HBt : Hid (LinesAt w.heap.size w (some ⟨b, off + f * 5, none⟩) (betw f t ls)) := (HI.out.drop f).take (t - f)
 have HX : Hid (∀ W, Below w.heap.size w W → Calls Tryz.prog 52 #[.slice (some ⟨b, off + f * 5, none⟩) (t - f) (t - f)] W fun e w' => e = .returned (.bool (evenB (betw f t ls))) ∧ Below W.heap.size W w') := fun W hb => by
  have h := areEven_any (some ⟨b, off + f * 5, none⟩) (t - f) (betw f t ls) W (by rw [betw_len f t ls hft ht]; omega) (HBt.out.later hb)
  rw [betw_len f t ls hft ht] at h
  exact h
 have HP : Hid (∀ W, Below w.heap.size w W → Calls Tryz.prog 55 #[.string name, .slice bo ms.length cb, .slice (some ⟨b, off + f * 5, none⟩) (t - f) (t - f)] W fun e w' => ∃ v ps, e = .returned v ∧ Below W.heap.size W w' ∧ RowL W.heap.size w' v ps ∧ ps.map (·.1) = patchLs name ms (betw f t ls)) := fun W hb => by
  have h := patchOf_any name bo (some ⟨b, off + f * 5, none⟩) cb (t - f) ms (betw f t ls) W hl2 (by rw [betw_len f t ls hft ht]; omega) HNB.out (fun h => by cases h) (HJ.out.later hb) (HBt.out.later hb)
  rw [betw_len f t ls hft ht] at h
  exact h
 have HXT : Hid (LinesAt w.heap.size w (some ⟨b, off, none⟩) (ls.drop t)) := (by rw [List.drop_eq_nil_of_le (by omega)]; exact LinesAt.nil)
 have HLN : Hid (2 ≤ (patchLs name ms (betw f t ls)).length ∧ (patchLs name ms (betw f t ls)).length ≤ 2097160) := by
  have h1 := patchLs_len name ms (betw f t ls)
  rw [betw_len f t ls hft ht] at h1
  exact ⟨by omega, by omega⟩
 have HFL : Hid ([ls.take f, patchLs name ms (betw f t ls), ls.drop t].flatten = swapLs f t name ls ms) := by simp [Hid, swapLs]
 have hls3 := swapLs_len f t name ls ms
 have hls2 : 0 < (swapLs f t name ls ms).length := by
  have := HLN.out.1
  rw [← HFL.out]; simp; omega
 have hls60 := checkC_len H0.out
 have HSL : Hid (0 < (swapLs f t name ls ms).length ∧ (swapLs f t name ls ms).length ≤ 4194304) := ⟨hls2, by omega⟩
 clear HBt hls2 hls3 hls60
 have no : ∀ (b : Bool), SwapOk ls f t name ms → True := fun _ _ => trivial
 go_wp2_with fail
 refine Calls.mono (HX.out w1 HB1.out) ?_
 rintro e w2 ⟨rfl, hb2⟩
 have HB2 : Hid (Below w.heap.size w w2) := HB1.out.trans (hb2.mono HB1.out.size)
 clear hb2
 cases e1 : evenB (betw f t ls) with
 | false =>
  have HN : Hid (¬ SwapOk ls f t name ms) := fun h => by have := h.2.2.2.2.1; rw [Int.toNat_natCast, Int.toNat_natCast, e1] at this; cases this
  go_wp2
  go_ret2
  exact swap_no HB2.out HN.out
 | true =>
 go_wp2_with fail
 refine (areEven_any bo cb ms w2 (by omega) (HJ.out.later HB2.out)).mono ?_
 rintro e w3 ⟨rfl, hb3⟩
 have HB3 : Hid (Below w.heap.size w w3) := HB2.out.trans (hb3.mono HB2.out.size)
 clear hb3
 cases e2 : evenB ms with
 | false =>
  have HN : Hid (¬ SwapOk ls f t name ms) := fun h => by have := h.2.2.2.2.2.1; rw [e2] at this; cases this
  go_wp2
  go_ret2
  exact swap_no HB3.out HN.out
 | true =>
 go_wp2_with fail
 refine (hasPatch_any (some ⟨b, off, none⟩) t ls name w3 (by omega) (HI.out.later HB3.out)).mono ?_
 rintro e w4 ⟨rfl, hb4⟩
 have HB4 : Hid (Below w.heap.size w w4) := HB3.out.trans (hb4.mono HB3.out.size)
 clear hb4
 cases e3 : patchB ls name with
 | true =>
  have HN : Hid (¬ SwapOk ls f t name ms) := fun h => by have := h.2.2.2.2.2.2.1; rw [e3] at this; cases this
  go_wp2
  go_ret2
  exact swap_no HB4.out HN.out
 | false =>
 go_wp2_with fail
 refine (hasPatch_any bo cb ms name w4 (by omega) (HJ.out.later HB4.out)).mono ?_
 rintro e w5 ⟨rfl, hb5⟩
 have HB5 : Hid (Below w.heap.size w w5) := HB4.out.trans (hb5.mono HB4.out.size)
 clear hb5
 cases e4 : patchB ms name with
 | true =>
  have HN : Hid (¬ SwapOk ls f t name ms) := fun h => by have := h.2.2.2.2.2.2.2.1; rw [e4] at this; cases this
  go_wp2
  go_ret2
  exact swap_no HB5.out HN.out
 | false =>
 have HOk : Hid (CheckC 0 (swapLs f t name ls ms) → SwapOk ls f t name ms) := fun h => ⟨H0.out, by omega, by omega, by omega, by rw [Int.toNat_natCast, Int.toNat_natCast]; exact e1, e2, e3, e4, by rw [Int.toNat_natCast, Int.toNat_natCast]; exact h⟩
 have HNo : Hid (¬ CheckC 0 (swapLs f t name ls ms) → ¬ SwapOk ls f t name ms) := fun h h2 => by have := h2.2.2.2.2.2.2.2.2; rw [Int.toNat_natCast, Int.toNat_natCast] at this; exact h this
 clear e1 e2 e3 e4 HX
 go_upto_region 6 with fail
 go_cut [13] from 55 to 67 (fun v wx => Hid (∃ ps, RowL w.heap.size wx v ps ∧ ps.map (·.1) = swapLs f t name ls ms) ∧ Hid (Below w.heap.size w wx))
 case first =>
  go_region_with (first
   | (go_at_call 55; refine Calls.mono (HP.out _ (by first | exact HB5.out.drew | exact HB5.out)) ?_; rintro e w6 ⟨v6, ps6, rfl, hb6, hr6, hm6⟩; have hn6 : (patchLs name ms (betw f t ls)).length = ps6.length := (by rw [← hm6, List.length_map]); obtain ⟨g6, c6, rfl, hc6, hl6⟩ := rowL_some hr6 (by have := HLN.out.1; omega); rw [hm6] at hl6; have HL6 : Hid (LinesAt w6.heap.size w6 (some ⟨g6, 0, none⟩) (patchLs name ms (betw f t ls))) := hl6; have HN6 : Hid ((patchLs name ms (betw f t ls)).length = ps6.length) := hn6; have HB6 : Hid (Below w.heap.size w w6) := (by first | exact HB5.out.drew.trans (hb6.mono HB5.out.size) | exact HB5.out.trans (hb6.mono HB5.out.size)); clear hb6 hr6 hm6 hl6 hn6)
   | (go_at_call 54; refine (concat_any _ [ls.take f, patchLs name ms (betw f t ls), ls.drop t] _ (by simp) (by simp) (by rw [HFL.out]; exact HSL.out.1) (by rw [HFL.out]; have := HSL.out.2; omega) (swap_lists (by first | exact HB6.out.drew | exact HB6.out) HI.out HXT.out (by omega) ht hcap HN6.out hc6 (by omega) (by omega) (by first | exact HL6.out | exact HL6.out.later (Below.refl _ _).drew))).mono ?_; rintro e w8 ⟨v8, ps8, rfl, hb8, hr8, hm8⟩; rw [HFL.out] at hm8; have HM8 : Hid (ps8.map (·.1) = swapLs f t name ls ms) := hm8; have HR8 : Hid (RowL w.heap.size w8 v8 ps8) := hr8.mono (by have := HB6.out.size; simp; omega); have HB8 : Hid (Below w.heap.size w w8) := (by first | exact (HB6.out.drew.alloc HB6.out.size _).trans (hb8.mono (by have := HB6.out.size; simp; omega)) | exact (HB6.out.alloc HB6.out.size _).trans (hb8.mono (by have := HB6.out.size; simp; omega))); clear hb8 hr8 hm8))
  all_goals
   go_wp2_with fail
   go_meet
   case rel => exact ⟨⟨ps8, HR8.out, HM8.out⟩, HB8⟩
 case rest =>
  obtain ⟨HR, HB6⟩ := hcut
  obtain ⟨ps, hr, hm⟩ := HR.out
  have hpl : ps.length = (swapLs f t name ls ms).length := by rw [← hm, List.length_map]
  obtain ⟨g, cp, hv, hcp, hli⟩ := rowL_some hr (by rw [hpl]; exact HSL.out.1)
  rw [hm] at hli
  rw [hpl] at hcp hv
  subst hv
  have HQS : Hid (∀ l ∈ swapLs f t name ls ms, LnSz l) := swapLs_mem HZ.out HZ2.out (fun k => lnK_sz hname) (fun k => lnK_sz (Nat.zero_le _))
  have hq2 := HSL.out.2
  obtain ⟨q, hq⟩ : ∃ q, q = swapLs f t name ls ms := ⟨_, rfl⟩
  have HQ : Hid (q = swapLs f t name ls ms) := hq
  rw [← hq] at hcp hli HQS hq2 HOk HNo ⊢
  have HLQ : Hid (LinesAt wc.heap.size wc (some ⟨g, 0, none⟩) q) := hli
  have HEc : Hid (Env wc) := HE.out.later HB6.out
  clear hr hm hpl hli HR HP HFL HSL HXT hq
  go_wp2_with fail
  refine (flowCheck_any2 (some ⟨g, 0, none⟩) cp q wc hcp hq2 HLQ.out HQS.out HEc.out).mono ?_
  rintro e w7 ⟨fa2, fb2, rfl, hb7, hck⟩
  have HB7 : Hid (Below w.heap.size w w7) := HB6.out.trans (hb7.mono HB6.out.size)
  have HLQ7 : Hid (LinesAt w7.heap.size w7 (some ⟨g, 0, none⟩) q) := HLQ.out.later hb7
  clear hb7
  by_cases hz0 : fb2 = 0
  ·subst hz0
   have HQ0 : Hid (CheckC 0 q) := hck
   have hq60 := checkC_len hck
   clear hck
   go_wp2_with (go_at_call 56; refine (copied_any (some ⟨g, 0, none⟩) cp q _ (by omega) HQS.out HLQ7.out).mono ?_; rintro e w8 ⟨v8, ps8, rfl, hb8, hm8, ho8⟩; have HB8 : Hid (Below w.heap.size w w8) := HB7.out.trans (hb8.mono HB7.out.size); have HM8 : Hid (ps8.map (·.1) = q) := hm8; have HO8 : Hid (OwnLn w.heap.size w8 v8 ps8) := ho8.mono HB7.out.size; clear hb8 hm8 ho8)
   go_ret2
   exact ⟨v8, true, ps8, rfl, HB8.out, HO8.out, .inr ⟨rfl, HOk.out HQ0.out, by rw [HM8.out, HQ.out, Int.toNat_natCast, Int.toNat_natCast]⟩⟩
  ·have hbz : (fb2 != 0) = true := by simpa using hz0
   have HN : Hid (¬ SwapOk ls f t name ms) := HNo.out (check_no hck hz0)
   clear hck
   go_wp2
   go_ret2
   exact swap_no HB7.out HN.out
end
section
open Go.RowKit
theorem swap_try_b (b off : Nat) (bo : Option Addr) (cb : Nat) (ls ms : List Ln) (t : Nat) (name : ByteArray) (w : World) (hcap : ls.length ≤ t) (hf : 1 ≤ t) (hft : t ≤ t) (ht : t ≤ ls.length) (hl : ls.length ≤ 1048576) (hl2 : ms.length ≤ 1048576)
  (hnb : bo = none → cb = 0) (hname : name.size ≤ 1048576) (hz : ∀ l ∈ ls, LnSz l) (hzm : ∀ l ∈ ms, LnSz l) (hi : LinesAt w.heap.size w (some ⟨b, off, none⟩) ls) (hj : LinesAt w.heap.size w bo ms) (he : Env w) (h0 : CheckC 0 ls) :
  Calls Tryz.prog 21 #[.slice (some ⟨b, off, none⟩) ls.length t, .int .i64 t, .int .i64 t, .string name, .slice bo ms.length cb] w (SwapE w ls t t name ms) := by
 have HI : Hid (LinesAt w.heap.size w (some ⟨b, off, none⟩) ls) := hi
 have HJ : Hid (LinesAt w.heap.size w bo ms) := hj
 have HZ : Hid (∀ l ∈ ls, LnSz l) := hz
 have HE : Hid (Env w) := he
 have H0 : Hid (CheckC 0 ls) := h0
 have HZ2 : Hid (∀ l ∈ ms, LnSz l) := hzm
 have HNB : Hid (bo = none → cb = 0) := hnb
 clear hi hj hz he h0 hnb hzm
 have hb1 : ¬ (t : Int) < 1 := by omega
 have hb2 : ¬ (t : Int) < (t : Int) := by omega
 have hb3 : ¬ (t : Int) > (ls.length : Int) := by omega
 go_enter Tryz.func21, Tryz.ntmps21
 go_wp2_with fail
 refine (flowCheck_any (some ⟨b, off, none⟩) t ls w hcap hl HI.out HZ.out HE.out).mono ?_
 rintro e w1 ⟨fa, fb, rfl, hbl, hck⟩
 have hfb : fb = 0 := (checkC_same H0.out hck).1 rfl
 subst hfb
 have HB1 : Hid (Below w.heap.size w w1) := hbl
 clear hbl hck
 have hfld : ∀ (a b : Int) (w : World), (Instr.field 43 (.agg #[.int .i64 a, .int .i64 b]) 1).run Tryz.prog w = .ok (.int .i64 b) w := Tryz.fieldCode2
 have HBt : Hid (LinesAt w.heap.size w (some ⟨b, off, none⟩) (betw t t ls)) := (by unfold betw; rw [Nat.sub_self, List.take_zero]; exact LinesAt.nil)
 have HX : Hid (∀ W, Below w.heap.size w W → Calls Tryz.prog 52 #[.slice (some ⟨b, off, none⟩) 0 0] W fun e w' => e = .returned (.bool (evenB (betw t t ls))) ∧ Below W.heap.size W w') := fun W hb => by
  have h := areEven_any (some ⟨b, off, none⟩) 0 (betw t t ls) W (by rw [betw_len t t ls hft ht]; omega) (HBt.out.later hb)
  rw [betw_len t t ls hft ht, Nat.sub_self] at h
  exact h
 have HP : Hid (∀ W, Below w.heap.size w W → Calls Tryz.prog 55 #[.string name, .slice bo ms.length cb, .slice (some ⟨b, off, none⟩) 0 0] W fun e w' => ∃ v ps, e = .returned v ∧ Below W.heap.size W w' ∧ RowL W.heap.size w' v ps ∧ ps.map (·.1) = patchLs name ms (betw t t ls)) := fun W hb => by
  have h := patchOf_any name bo (some ⟨b, off, none⟩) cb 0 ms (betw t t ls) W hl2 (by rw [betw_len t t ls hft ht]; omega) HNB.out (fun h => by cases h) (HJ.out.later hb) (HBt.out.later hb)
  rw [betw_len t t ls hft ht, Nat.sub_self] at h
  exact h
 have HXT : Hid (LinesAt w.heap.size w (some ⟨b, off, none⟩) (ls.drop t)) := (by rw [List.drop_eq_nil_of_le (by omega)]; exact LinesAt.nil)
 have HLN : Hid (2 ≤ (patchLs name ms (betw t t ls)).length ∧ (patchLs name ms (betw t t ls)).length ≤ 2097160) := by
  have h1 := patchLs_len name ms (betw t t ls)
  rw [betw_len t t ls hft ht] at h1
  exact ⟨by omega, by omega⟩
 have HFL : Hid ([ls.take t, patchLs name ms (betw t t ls), ls.drop t].flatten = swapLs t t name ls ms) := by simp [Hid, swapLs]
 have hls3 := swapLs_len t t name ls ms
 have hls2 : 0 < (swapLs t t name ls ms).length := by
  have := HLN.out.1
  rw [← HFL.out]; simp; omega
 have hls60 := checkC_len H0.out
 have HSL : Hid (0 < (swapLs t t name ls ms).length ∧ (swapLs t t name ls ms).length ≤ 4194304) := ⟨hls2, by omega⟩
 clear HBt hls2 hls3 hls60
 have no : ∀ (b : Bool), SwapOk ls t t name ms → True := fun _ _ => trivial
 go_wp2_with fail
 refine Calls.mono (HX.out w1 HB1.out) ?_
 rintro e w2 ⟨rfl, hb2⟩
 have HB2 : Hid (Below w.heap.size w w2) := HB1.out.trans (hb2.mono HB1.out.size)
 clear hb2
 cases e1 : evenB (betw t t ls) with
 | false =>
  have HN : Hid (¬ SwapOk ls t t name ms) := fun h => by have := h.2.2.2.2.1; rw [Int.toNat_natCast, e1] at this; cases this
  go_wp2
  go_ret2
  exact swap_no HB2.out HN.out
 | true =>
 go_wp2_with fail
 refine (areEven_any bo cb ms w2 (by omega) (HJ.out.later HB2.out)).mono ?_
 rintro e w3 ⟨rfl, hb3⟩
 have HB3 : Hid (Below w.heap.size w w3) := HB2.out.trans (hb3.mono HB2.out.size)
 clear hb3
 cases e2 : evenB ms with
 | false =>
  have HN : Hid (¬ SwapOk ls t t name ms) := fun h => by have := h.2.2.2.2.2.1; rw [e2] at this; cases this
  go_wp2
  go_ret2
  exact swap_no HB3.out HN.out
 | true =>
 go_wp2_with fail
 refine (hasPatch_any (some ⟨b, off, none⟩) t ls name w3 (by omega) (HI.out.later HB3.out)).mono ?_
 rintro e w4 ⟨rfl, hb4⟩
 have HB4 : Hid (Below w.heap.size w w4) := HB3.out.trans (hb4.mono HB3.out.size)
 clear hb4
 cases e3 : patchB ls name with
 | true =>
  have HN : Hid (¬ SwapOk ls t t name ms) := fun h => by have := h.2.2.2.2.2.2.1; rw [e3] at this; cases this
  go_wp2
  go_ret2
  exact swap_no HB4.out HN.out
 | false =>
 go_wp2_with fail
 refine (hasPatch_any bo cb ms name w4 (by omega) (HJ.out.later HB4.out)).mono ?_
 rintro e w5 ⟨rfl, hb5⟩
 have HB5 : Hid (Below w.heap.size w w5) := HB4.out.trans (hb5.mono HB4.out.size)
 clear hb5
 cases e4 : patchB ms name with
 | true =>
  have HN : Hid (¬ SwapOk ls t t name ms) := fun h => by have := h.2.2.2.2.2.2.2.1; rw [e4] at this; cases this
  go_wp2
  go_ret2
  exact swap_no HB5.out HN.out
 | false =>
 have HOk : Hid (CheckC 0 (swapLs t t name ls ms) → SwapOk ls t t name ms) := fun h => ⟨H0.out, by omega, by omega, by omega, by rw [Int.toNat_natCast]; exact e1, e2, e3, e4, by rw [Int.toNat_natCast]; exact h⟩
 have HNo : Hid (¬ CheckC 0 (swapLs t t name ls ms) → ¬ SwapOk ls t t name ms) := fun h h2 => by have := h2.2.2.2.2.2.2.2.2; rw [Int.toNat_natCast] at this; exact h this
 clear e1 e2 e3 e4 HX
 go_upto_region 6 with fail
 go_cut [13] from 55 to 67 (fun v wx => Hid (∃ ps, RowL w.heap.size wx v ps ∧ ps.map (·.1) = swapLs t t name ls ms) ∧ Hid (Below w.heap.size w wx))
 case first =>
  go_region_with (first
   | (go_at_call 55; refine Calls.mono (HP.out _ (by first | exact HB5.out.drew | exact HB5.out)) ?_; rintro e w6 ⟨v6, ps6, rfl, hb6, hr6, hm6⟩; have hn6 : (patchLs name ms (betw t t ls)).length = ps6.length := (by rw [← hm6, List.length_map]); obtain ⟨g6, c6, rfl, hc6, hl6⟩ := rowL_some hr6 (by have := HLN.out.1; omega); rw [hm6] at hl6; have HL6 : Hid (LinesAt w6.heap.size w6 (some ⟨g6, 0, none⟩) (patchLs name ms (betw t t ls))) := hl6; have HN6 : Hid ((patchLs name ms (betw t t ls)).length = ps6.length) := hn6; have HB6 : Hid (Below w.heap.size w w6) := (by first | exact HB5.out.drew.trans (hb6.mono HB5.out.size) | exact HB5.out.trans (hb6.mono HB5.out.size)); clear hb6 hr6 hm6 hl6 hn6)
   | (go_at_call 54; refine (concat_any _ [ls.take t, patchLs name ms (betw t t ls), ls.drop t] _ (by simp) (by simp) (by rw [HFL.out]; exact HSL.out.1) (by rw [HFL.out]; have := HSL.out.2; omega) (swap_lists (by first | exact HB6.out.drew | exact HB6.out) HI.out HXT.out (by omega) ht hcap HN6.out hc6 (by omega) (by omega) (by first | exact HL6.out | exact HL6.out.later (Below.refl _ _).drew))).mono ?_; rintro e w8 ⟨v8, ps8, rfl, hb8, hr8, hm8⟩; rw [HFL.out] at hm8; have HM8 : Hid (ps8.map (·.1) = swapLs t t name ls ms) := hm8; have HR8 : Hid (RowL w.heap.size w8 v8 ps8) := hr8.mono (by have := HB6.out.size; simp; omega); have HB8 : Hid (Below w.heap.size w w8) := (by first | exact (HB6.out.drew.alloc HB6.out.size _).trans (hb8.mono (by have := HB6.out.size; simp; omega)) | exact (HB6.out.alloc HB6.out.size _).trans (hb8.mono (by have := HB6.out.size; simp; omega))); clear hb8 hr8 hm8))
  all_goals
   go_wp2_with fail
   go_meet
   case rel => exact ⟨⟨ps8, HR8.out, HM8.out⟩, HB8⟩
 case rest =>
  obtain ⟨HR, HB6⟩ := hcut
  obtain ⟨ps, hr, hm⟩ := HR.out
  have hpl : ps.length = (swapLs t t name ls ms).length := by rw [← hm, List.length_map]
  obtain ⟨g, cp, hv, hcp, hli⟩ := rowL_some hr (by rw [hpl]; exact HSL.out.1)
  rw [hm] at hli
  rw [hpl] at hcp hv
  subst hv
  have HQS : Hid (∀ l ∈ swapLs t t name ls ms, LnSz l) := swapLs_mem HZ.out HZ2.out (fun k => lnK_sz hname) (fun k => lnK_sz (Nat.zero_le _))
  have hq2 := HSL.out.2
  obtain ⟨q, hq⟩ : ∃ q, q = swapLs t t name ls ms := ⟨_, rfl⟩
  have HQ : Hid (q = swapLs t t name ls ms) := hq
  rw [← hq] at hcp hli HQS hq2 HOk HNo ⊢
  have HLQ : Hid (LinesAt wc.heap.size wc (some ⟨g, 0, none⟩) q) := hli
  have HEc : Hid (Env wc) := HE.out.later HB6.out
  clear hr hm hpl hli HR HP HFL HSL HXT hq
  go_wp2_with fail
  refine (flowCheck_any2 (some ⟨g, 0, none⟩) cp q wc hcp hq2 HLQ.out HQS.out HEc.out).mono ?_
  rintro e w7 ⟨fa2, fb2, rfl, hb7, hck⟩
  have HB7 : Hid (Below w.heap.size w w7) := HB6.out.trans (hb7.mono HB6.out.size)
  have HLQ7 : Hid (LinesAt w7.heap.size w7 (some ⟨g, 0, none⟩) q) := HLQ.out.later hb7
  clear hb7
  by_cases hz0 : fb2 = 0
  ·subst hz0
   have HQ0 : Hid (CheckC 0 q) := hck
   have hq60 := checkC_len hck
   clear hck
   go_wp2_with (go_at_call 56; refine (copied_any (some ⟨g, 0, none⟩) cp q _ (by omega) HQS.out HLQ7.out).mono ?_; rintro e w8 ⟨v8, ps8, rfl, hb8, hm8, ho8⟩; have HB8 : Hid (Below w.heap.size w w8) := HB7.out.trans (hb8.mono HB7.out.size); have HM8 : Hid (ps8.map (·.1) = q) := hm8; have HO8 : Hid (OwnLn w.heap.size w8 v8 ps8) := ho8.mono HB7.out.size; clear hb8 hm8 ho8)
   go_ret2
   exact ⟨v8, true, ps8, rfl, HB8.out, HO8.out, .inr ⟨rfl, HOk.out HQ0.out, by rw [HM8.out, HQ.out, Int.toNat_natCast]⟩⟩
  ·have hbz : (fb2 != 0) = true := by simpa using hz0
   have HN : Hid (¬ SwapOk ls t t name ms) := HNo.out (check_no hck hz0)
   clear hck
   go_wp2
   go_ret2
   exact swap_no HB7.out HN.out
end
section
open Go.RowKit
theorem verSwap_any (b off cap : Nat) (bo : Option Addr) (cb : Nat) (ls ms : List Ln) (f t : Int) (name : ByteArray) (w : World) (hcap : ls.length ≤ cap) (hl : ls.length ≤ 1048576) (hl2 : ms.length ≤ 1048576)
  (hnb : bo = none → cb = 0) (hname : name.size ≤ 1048576) (hz : ∀ l ∈ ls, LnSz l) (hzm : ∀ l ∈ ms, LnSz l) (hi : LinesAt w.heap.size w (some ⟨b, off, none⟩) ls) (hj : LinesAt w.heap.size w bo ms) (he : Env w) :
  Calls Tryz.prog 21 #[.slice (some ⟨b, off, none⟩) ls.length cap, .int .i64 f, .int .i64 t, .string name, .slice bo ms.length cb] w (SwapE w ls f t name ms) := by
 by_cases hg : CheckC 0 ls ∧ 1 ≤ f ∧ f ≤ t ∧ t ≤ ls.length
 ·obtain ⟨h0, h1, h2, h3⟩ := hg
  obtain ⟨fn, rfl⟩ : ∃ n : Nat, f = n := ⟨f.toNat, by omega⟩
  obtain ⟨tn, rfl⟩ : ∃ n : Nat, t = n := ⟨t.toNat, by omega⟩
  by_cases hc : tn < cap
  ·exact swap_try b off cap bo cb ls ms fn tn name w hcap (by omega) (by omega) (by omega) hl hl2 hc hnb hname hz hzm hi hj he h0
  ·have e : cap = tn := by omega
   subst e
   by_cases hf : fn < cap
   ·exact swap_try_a b off bo cb ls ms fn cap name w hcap (by omega) (by omega) (by omega) hl hl2 hf hnb hname hz hzm hi hj he h0
   ·have e : fn = cap := by omega
    subst e
    exact swap_try_b b off bo cb ls ms fn name w hcap (by omega) (by omega) (by omega) hl hl2 hnb hname hz hzm hi hj he h0
 ·have HI : Hid (LinesAt w.heap.size w (some ⟨b, off, none⟩) ls) := hi
  have HZ : Hid (∀ l ∈ ls, LnSz l) := hz
  have HE : Hid (Env w) := he
  have HG : Hid (¬ (CheckC 0 ls ∧ 1 ≤ f ∧ f ≤ t ∧ t ≤ ls.length)) := hg
  have HN : Hid (¬ SwapOk ls f t name ms) := fun h => hg ⟨h.1, h.2.1, h.2.2.1, h.2.2.2.1⟩
  have hfld : ∀ (a b : Int) (w : World), (Instr.field 43 (.agg #[.int .i64 a, .int .i64 b]) 1).run Tryz.prog w = .ok (.int .i64 b) w := Tryz.fieldCode2
  clear hi hz he hg hj hzm
  go_enter Tryz.func21, Tryz.ntmps21
  go_wp2_with fail
  refine (flowCheck_any (some ⟨b, off, none⟩) cap ls w hcap hl HI.out HZ.out HE.out).mono ?_
  rintro e w1 ⟨fa, fb, rfl, hbl, hck⟩
  have HB1 : Hid (Below w.heap.size w w1) := hbl
  clear hbl
  by_cases hz0 : fb = 0
  ·subst hz0
   have HR : Hid (¬ (1 ≤ f ∧ f ≤ t ∧ t ≤ ls.length)) := fun h => HG.out ⟨hck, h⟩
   clear hck
   by_cases g1 : f < 1
   ·go_wp2
    go_ret2
    exact swap_no HB1.out HN.out
   ·by_cases g2 : t < f
    ·go_wp2
     go_ret2
     exact swap_no HB1.out HN.out
    ·have g3 : t > (ls.length : Int) := by
      apply Classical.byContradiction
      intro h
      exact HR.out ⟨by omega, by omega, by omega⟩
     go_wp2
     go_ret2
     exact swap_no HB1.out HN.out
  ·have hbz : (fb != 0) = true := by simpa using hz0
   clear hck
   go_wp2
   go_ret2
   exact swap_no HB1.out HN.out
end
section
open Go.RowKit
theorem app_strs {w : World} {ops : Array Oper} {rest : List Oper} {o : Oper} {a : Act} {Q : Exit → Act → World → Prop} (hgd : o.guard = none) (s x : Operand)
  (ho : o.op = .call { callee := .builtin .append, args := #[s, x], argTypes := #[45, 45] })
  (base : Nat) (hs : a.eval s = .slice (some ⟨base, 0, none⟩) 0 0) (hown : w.ownsRow base 9 1 (.slice (some ⟨base, 0, none⟩) 0 0) 0 [])
  (xo : Option Addr) (c : Nat) (args : List ByteArray) (hx : a.eval x = .slice xo args.length c) (hst : StrsAt 0 w.heap.size w xo args) (hl : args.length ≤ 1048576)
  (h : ∀ uo uc w', w'.ownsRow base 9 1 (.slice uo args.length uc) args.length (strCells args) → w.grownBy w' (some base) → wpList Tryz.prog ops Q rest (a.put o.dst (.slice uo args.length uc)) w') :
  wpList Tryz.prog ops Q (o :: rest) a w := by
 obtain ⟨i0, hi0, hz0, hz1, hz2⟩ := info_parts Tryz.infoStr
 cases xo with
 | some ad =>
  have hcells : ∀ j u, (strCells args)[j]? = some u → w.cell? (ad.add j) = some u := by
   rcases args with _ | ⟨y, r⟩
   ·intro j u hj; simp [strCells] at hj
   ·obtain ⟨b', o', e, _⟩ := hst 0 (by simp)
    cases e
    exact strs_cells hst
  refine wpList_append_own w hgd s x 45 ho base 9 i0 (.string ByteArray.empty) 1 16 Tryz.underlying45 hi0 hz0 hz1 hz2 rfl (by decide) _ 0 [] hs hown ad args.length c (strCells args) hx (by simp [strCells]) hcells (by intro u hu; simp [strCells] at hu; obtain ⟨a, _, rfl⟩ := hu; rfl) (by unfold maxLen; omega) (by omega) ?_ ?_
  ·have := (hown.lt base rfl).2; omega
  ·intro v' w' ho' hg' _
   rw [Nat.zero_add, List.nil_append] at ho'
   obtain ⟨uo, uc, rfl, _⟩ := own_form ho'
   exact h uo uc w' ho' hg'
 | none =>
  have e : args = [] := by
   rcases args with _ | ⟨y, r⟩
   ·rfl
   ·obtain ⟨_, _, e, _⟩ := hst 0 (by simp)
    cases e
  subst e
  have hk := h (some ⟨base, 0, none⟩) 0 w hown grown_refl
  refine wpList_plain hgd fun K hK => ?_
  unfold Oper.wp execOp
  simp only [ho, resolve, invoke, builtin, Sem.run_bind, Sem.run_pure, Result.andThen_ok, List.map_toArray, List.map_cons, List.map_nil, hs, hx]
  simp [go_sem]
  exact hK _ _ hk
theorem own_app1 {base : Nat} {w w' : World} {v v' : Value} {ps : List (Ln × Value)} {l : Ln} {u : Value} (h : OwnLn base w v ps) (hu : w.ownsRow base 9 1 u (lnA l).length (strCells (lnA l)))
  (hap : ∀ p ∈ ps, ∀ k, p.2.ownBlock = some k → u.ownBlock ≠ some k) (ho : w'.ownsRow base 49 5 v' (ps.length + 1) ((ps.flatMap fun p => lnC p.1 p.2) ++ lnC l u)) (hg : w.grownBy w' v.ownBlock) : OwnLn base w' v' (ps ++ [(l, u)]) := by
 have keep : ∀ {n : Nat} {x : Value} {xs : List Value}, w.ownsRow base 9 1 x n xs → w'.ownsRow base 9 1 x n xs := fun {n x xs} hx => by
  refine hx.kept hg ?_
  cases hx0 : x.ownBlock with
  | none => exact .inl rfl
  | some k =>
   refine .inr fun e => ?_
   exact own_types h.row hx (by decide) k e.symm hx0
 refine ⟨?_, fun p hp => ?_, apart_snoc h.apart fun q hq k hk => hap q hq k hk⟩
 ·rw [List.length_append, List.flatMap_append]
  have e : ([(l, u)] : List (Ln × Value)).flatMap (fun p => lnC p.1 p.2) = lnC l u := by simp
  rw [e]; exact ho
 ·rcases List.mem_append.1 hp with hp | hp
  ·exact keep (h.args p hp)
  ·have : p = (l, u) := by simpa using hp
   subst this
   exact keep hu
theorem l23_mid {wr w3 : World} {x0 x1 x2 x3 x4 : Value} {s t : TypeId} (hg : ((wr.alloc (.cells #[x0, x1, x2, x3, x4] s)).alloc (.cells #[] t)).grownBy w3 (some (wr.heap.size + 1))) :
  Below wr.heap.size wr w3 ∧ wr.heap.size + 2 ≤ w3.heap.size ∧ w3.heap[wr.heap.size]? = some (.cells #[x0, x1, x2, x3, x4] s (0, 0)) := by
 have h0 : Below wr.heap.size wr ((wr.alloc (.cells #[x0, x1, x2, x3, x4] s)).alloc (.cells #[] t)) := ((Below.refl _ _).alloc (Nat.le_refl _) _).alloc (by simp) _
 refine ⟨h0.grown hg (by simp; omega) (fun k hk => by cases hk; omega), by have := hg.size; simpa using this, ?_⟩
 rw [hg.block wr.heap.size (by simp; omega) (fun e => by have := Option.some.inj e; omega)]
 exact (Below.heap_alloc _ _ _ (by simp)).trans (heap_alloc_new wr _)
theorem l23Lines_any (ao : Option Addr) (cap : Nat) (ls : List Ln) (w : World) (hl : ls.length ≤ 1048576) (hz : ∀ l ∈ ls, LnSz l) (hi : LinesAt w.heap.size w ao ls) :
  Calls Tryz.prog 49 #[.slice ao ls.length cap] w fun e w' => ∃ (v : Value) (ps : List (Ln × Value)), e = .returned v ∧ Below w.heap.size w w' ∧ ps.map (·.1) = ls ∧ OwnLn w.heap.size w' v ps := by
 have HI : Hid (LinesAt w.heap.size w ao ls) := hi
 have HZ : Hid (∀ l ∈ ls, LnSz l) := hz
 clear hi hz
 obtain ⟨i0, hi0, hz0, hz1, hz2⟩ := info_parts Tryz.infoLn
 have HM : Hid (OwnLn w.heap.size (w.alloc (.cells #[] 49)) (.slice (some ⟨w.heap.size, 0, none⟩) 0 0) []) := ⟨World.ownsRow_made w #[] 0 (Nat.le_refl _) (by decide) rfl, fun p hp => absurd hp (by simp), List.Pairwise.nil⟩
 have HM1 : Hid (Below w.heap.size w (w.alloc (.cells #[] 49))) := (Below.refl _ _).alloc (Nat.le_refl _) _
 go_enter Tryz.func49, Tryz.ntmps49
 go_wp2_with fail
 go_loopw [3, 4] (fun v iv wr => ∃ (j : Nat) (ps : List (Ln × Value)), j ≤ ls.length ∧ iv = .int .i64 j ∧ Hid (ps.map (·.1) = ls.take j) ∧ Hid (OwnLn w.heap.size wr v ps) ∧ Hid (Below w.heap.size w wr)) (fun _ iv _ => ls.length - (intOf iv).toNat)
 case atStart => exact ⟨0, [], Nat.zero_le _, rfl, rfl, HM, HM1⟩
 case round =>
  clear HM HM1
  obtain ⟨j, ps, hj, rfl, HP, HO, HB⟩ := hrel
  by_cases hlt : j < ls.length
  ·obtain ⟨b, off, rfl, hB, ao2, cap2, hc2, q0, q1, q2, q3, q4, hA⟩ := HI.out j hlt
   have c0 := (HB.out.cell (p := ⟨b, off + j * 5, none⟩) hB).trans q0
   have c1 := (HB.out.cell (p := ⟨b, off + j * 5 + 1, none⟩) hB).trans q1
   have c2 := (HB.out.cell (p := ⟨b, off + j * 5 + 2, none⟩) hB).trans q2
   have c3 := (HB.out.cell (p := ⟨b, off + j * 5 + 3, none⟩) hB).trans q3
   have c4 := (HB.out.cell (p := ⟨b, off + j * 5 + 4, none⟩) hB).trans q4
   have HAr : Hid (StrsAt 0 w.heap.size w ao2 ls[j].2.args) := hA
   have hsz := (HZ.out _ (List.getElem_mem hlt)).len
   have hgs := HB.out.size
   have HPS : Hid (∀ u : Value, (ps ++ [(ls[j], u)]).map (·.1) = ls.take (j + 1)) := fun u => by
    rw [List.map_append, HP.out, List.take_succ_eq_append_getElem hlt]; rfl
   have hpl : ps.length = j := by have := congrArg List.length HP.out; simp at this; omega
   obtain ⟨k, tt, name, args, undo, hl0⟩ : ∃ k tt name args undo, ls[j] = (k, ⟨tt, name, args, undo⟩) := ⟨ls[j].1, ls[j].2.to, ls[j].2.name, ls[j].2.args, ls[j].2.undo, rfl⟩
   rw [hl0] at c0 c1 c2 c3 c4 HAr hsz HPS
   simp only at c0 c1 c2 c3 c4 HAr hsz
   have HMR : Hid (((wr.alloc (.cells #[.int .i64 k, .string tt, .string name, .slice ao2 args.length cap2, .string undo] 49)).alloc (.cells #[] 9)).ownsRow (wr.heap.size + 1) 9 1 (.slice (some ⟨wr.heap.size + 1, 0, none⟩) 0 0) 0 []) := made_row wr _ _
   have HSt : Hid (StrsAt 0 ((wr.alloc (.cells #[.int .i64 k, .string tt, .string name, .slice ao2 args.length cap2, .string undo] 49)).alloc (.cells #[] 9)).heap.size ((wr.alloc (.cells #[.int .i64 k, .string tt, .string name, .slice ao2 args.length cap2, .string undo] 49)).alloc (.cells #[] 9)) ao2 args) := HAr.out.later ((HB.out.alloc hgs _).alloc (by simp; omega) _)
   have HMid : Hid (∀ uo uc w3, ((wr.alloc (.cells #[.int .i64 k, .string tt, .string name, .slice ao2 args.length cap2, .string undo] 49)).alloc (.cells #[] 9)).grownBy w3 (some (wr.heap.size + 1)) → w3.ownsRow (wr.heap.size + 1) 9 1 (.slice uo args.length uc) args.length (strCells args) →
     (Below wr.heap.size wr w3 ∧ wr.heap.size + 2 ≤ w3.heap.size ∧ (w3.cell? ⟨wr.heap.size, 0, none⟩ = some (.int .i64 k) ∧ w3.cell? ⟨wr.heap.size, 1, none⟩ = some (.string tt) ∧ w3.cell? ⟨wr.heap.size, 2, none⟩ = some (.string name) ∧ w3.cell? ⟨wr.heap.size, 3, none⟩ = some (.slice ao2 args.length cap2) ∧ w3.cell? ⟨wr.heap.size, 4, none⟩ = some (.string undo)) ∧ (∀ j, w3.frozen? ⟨wr.heap.size, j, none⟩ = false) ∧
      Below w.heap.size w ((w3.setCell ⟨wr.heap.size, 3, none⟩ (.slice uo args.length uc)).alloc (.cells #[.int .i64 k, .string tt, .string name, .slice uo args.length uc, .string undo] 49)) ∧ OwnLn w.heap.size ((w3.setCell ⟨wr.heap.size, 3, none⟩ (.slice uo args.length uc)).alloc (.cells #[.int .i64 k, .string tt, .string name, .slice uo args.length uc, .string undo] 49)) u3 ps ∧ ((w3.setCell ⟨wr.heap.size, 3, none⟩ (.slice uo args.length uc)).alloc (.cells #[.int .i64 k, .string tt, .string name, .slice uo args.length uc, .string undo] 49)).ownsRow w.heap.size 9 1 (.slice uo args.length uc) args.length (strCells args) ∧ (∀ p ∈ ps, ∀ k, p.2.ownBlock = some k → (Value.slice uo args.length uc).ownBlock ≠ some k) ∧
      (∀ j u, (lnC (k, ⟨tt, name, args, undo⟩) (.slice uo args.length uc))[j]? = some u → ((w3.setCell ⟨wr.heap.size, 3, none⟩ (.slice uo args.length uc)).alloc (.cells #[.int .i64 k, .string tt, .string name, .slice uo args.length uc, .string undo] 49)).cell? ((⟨w3.heap.size, 0, none⟩ : Addr).add j) = some u))) := fun uo uc w3 hg ho => by
    obtain ⟨hb, hs, hbk⟩ := l23_mid hg
    have hun : (Value.slice uo args.length uc).ownBlock ≠ some wr.heap.size := fun e => by have := (ho.lt _ e).1; omega
    have hb4 : Below wr.heap.size wr (w3.setCell ⟨wr.heap.size, 3, none⟩ (.slice uo args.length uc)) := hb.setCell (Nat.le_refl _) _
    have hb5 : Below wr.heap.size wr ((w3.setCell ⟨wr.heap.size, 3, none⟩ (.slice uo args.length uc)).alloc (.cells #[.int .i64 k, .string tt, .string name, .slice uo args.length uc, .string undo] 49)) := hb4.alloc hb4.size _
    refine ⟨hb, hs, ⟨?_, ?_, ?_, ?_, ?_⟩, fun j => frozen_of_row w3 _ j _ _ hbk, HB.out.trans (hb5.mono hgs), HO.out.below hb5, ?_, fun p hp x hx e => ?_, ?_⟩
    ·rw [cell_of_row w3 _ 0 _ _ _ hbk]; rfl
    ·rw [cell_of_row w3 _ 1 _ _ _ hbk]; rfl
    ·rw [cell_of_row w3 _ 2 _ _ _ hbk]; rfl
    ·rw [cell_of_row w3 _ 3 _ _ _ hbk]; rfl
    ·rw [cell_of_row w3 _ 4 _ _ _ hbk]; rfl
    ·exact own_mono ((own_set_far ho hun _).alloc _) (by omega)
    ·have h1 := ((HO.out.args p hp).lt x hx).2
     have h2 := (ho.lt _ e).1
     omega
    ·have h := World.news_of_block (heap_alloc_new (w3.setCell ⟨wr.heap.size, 3, none⟩ (.slice uo args.length uc)) (.cells #[.int .i64 k, .string tt, .string name, .slice uo args.length uc, .string undo] 49))
     rw [World.size_setCell] at h
     exact h
   clear q0 q1 q2 q3 q4 hA hl0
   go_wp2_with (at_builtin; first
    | (refine app_strs rfl _ _ rfl (wr.heap.size + 1) rfl HMR.out ao2 cap2 args rfl HSt.out hsz ?_; intro uo uc w3 ho3 hg3; obtain ⟨hb3, hs3, ⟨x0, x1, x2, x3, x4⟩, hf3, hb5, ho5, hu5, hap5, hc5⟩ := HMid.out uo uc w3 hg3 ho3; have HB5 : Hid (Below w.heap.size w ((w3.setCell ⟨wr.heap.size, 3, none⟩ (.slice uo args.length uc)).alloc (.cells #[.int .i64 k, .string tt, .string name, .slice uo args.length uc, .string undo] 49))) := hb5; have HO5 : Hid (OwnLn w.heap.size ((w3.setCell ⟨wr.heap.size, 3, none⟩ (.slice uo args.length uc)).alloc (.cells #[.int .i64 k, .string tt, .string name, .slice uo args.length uc, .string undo] 49)) u3 ps) := ho5; have HU5 : Hid (((w3.setCell ⟨wr.heap.size, 3, none⟩ (.slice uo args.length uc)).alloc (.cells #[.int .i64 k, .string tt, .string name, .slice uo args.length uc, .string undo] 49)).ownsRow w.heap.size 9 1 (.slice uo args.length uc) args.length (strCells args)) := hu5; have HA5 : Hid (∀ p ∈ ps, ∀ k, p.2.ownBlock = some k → (Value.slice uo args.length uc).ownBlock ≠ some k) := hap5; have HC5 : Hid (∀ j u, (lnC (k, ⟨tt, name, args, undo⟩) (.slice uo args.length uc))[j]? = some u → ((w3.setCell ⟨wr.heap.size, 3, none⟩ (.slice uo args.length uc)).alloc (.cells #[.int .i64 k, .string tt, .string name, .slice uo args.length uc, .string undo] 49)).cell? ((⟨w3.heap.size, 0, none⟩ : Addr).add j) = some u) := hc5; clear hb3 hb5 ho5 hu5 hap5 hc5 hg3 ho3)
    | (refine wpList_append_own_at _ rfl _ _ 27 rfl w.heap.size 49 i0 (.agg #[.int .i64 0, .string ⟨#[]⟩, .string ⟨#[]⟩, .slice none 0 0, .string ⟨#[]⟩]) 5 80 Tryz.underlying27 hi0 hz0 hz1 hz2 rfl (by decide) u3 ps.length _ rfl HO5.out.row ⟨w3.heap.size, 0, none⟩ 1 1 (lnC (k, ⟨tt, name, args, undo⟩) (.slice uo args.length uc)) rfl rfl HC5.out (by intro u hu; simp only [lnC, List.mem_cons, List.not_mem_nil, or_false] at hu; rcases hu with rfl | rfl | rfl | rfl | rfl <;> rfl) (by unfold maxLen; omega) (by omega) (by have := HB5.out.size; omega) ?_; intro v6 w6 h1 h2 _ h4; have HO6 : Hid (OwnLn w.heap.size w6 v6 (ps ++ [((k, ⟨tt, name, args, undo⟩), Value.slice uo args.length uc)])) := own_app1 HO5.out HU5.out HA5.out h1 h2; have HB6 : Hid (Below w.heap.size w w6) := app_below HB5.out HO5.out.row h2 (by have := HB5.out.size; omega); clear h1 h2 h4))
   go_roundw
   case rel => exact ⟨j + 1, _, by omega, by go_num, HPS.out _, HO6, HB6⟩
   case measure => simp [intOf]; omega
  ·have e : j = ls.length := by omega
   subst e
   go_wp2
   go_ret
   exact ⟨_, ps, rfl, HB.out, by rw [HP.out, List.take_length], HO.out⟩
end
end Go.Proofs.YtlbjjbolbopfmaaGreatDoor
