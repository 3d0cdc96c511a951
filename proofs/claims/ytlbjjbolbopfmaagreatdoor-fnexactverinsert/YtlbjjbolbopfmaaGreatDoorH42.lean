import Derived.Test.YtlbjjbolbopfmaaGreatDoorH41
import Derived.Test.YtlbjjbolbopfmaaGreatDoorH20
import Derived.Test.YtlbjjbolbopfmaaGreatDoorH21
import Derived.Deep.Slices
import Derived.Deep.Strs
import Derived.ProofKit
import Derived.Test.YtlbjjbolbopfmaaGreatDoorRows
import Derived.Test.YtlbjjbolbopfmaaGreatDoorH01
import Derived.Lib.LaidTab
import Derived.Stop.LaidErr
import Derived.LaidLaws
import Derived.LaidHandle
namespace Go.Proofs.YtlbjjbolbopfmaaGreatDoor
set_option maxHeartbeats 8000000
set_option maxRecDepth 1000000
set_option linter.unusedVariables false
section
open Go.RowKit
theorem law_insert (ao bo : Option Addr) (ca cb : Nat) (ls ms : List Ln) (f : Int) (name : ByteArray) (w : World) (hca : ls.length ≤ ca) (hcb : ms.length ≤ cb) (hx : ls.length ≤ 9223372036854775807) (hy : ms.length ≤ 9223372036854775807) (hm : ∀ l ∈ ls, LnMx l) (hm2 : ∀ l ∈ ms, LnMx l) (hi : LinesAt w.heap.size w ao ls) (hj : LinesAt w.heap.size w bo ms) (he : Env w) :
  Calls Tryz.prog 6 #[.slice ao ls.length ca, .int .i64 f, .string name, .slice bo ms.length cb] w fun e w' => e = .returned (.bool true) ∧ Below w.heap.size w w' := by
 have HI : Hid (LinesAt w.heap.size w ao ls) := hi
 have HJ : Hid (LinesAt w.heap.size w bo ms) := hj
 have HM : Hid (∀ l ∈ ls, LnMx l) := hm
 have HM2 : Hid (∀ l ∈ ms, LnMx l) := hm2
 have HE : Hid (Env w) := he
 clear hi hj hm hm2 he
 by_cases hname : name.size ≤ 1048576
 ·have hng : ¬ (name.size : Int) > 1048576 := by omega
  go_enter Tryz.func6, Tryz.ntmps6
  go_wp2_with fail
  refine (szFlowLineS_any ao ca ls 1048576 w (by omega) (by omega) hx HM.out HI.out).mono ?_
  rintro e w1 ⟨r1, rfl, hr1, hb1⟩
  have HB1 : Hid (Below w.heap.size w w1) := hb1
  clear hb1
  rcases hr1 with ⟨rfl, _⟩ | ⟨hr1, hr1'⟩
  ·go_wp2
   go_ret
   exact ⟨rfl, HB1.out⟩
  have hr1n : ¬ r1 < 0 := by omega
  have hr1u : r1 ≤ 1048576 := by omega
  have HR1 : Hid (r1 = 1048576 - (bulkLs ls : Int)) := hr1'
  clear hr1'
  go_wp2_with fail
  refine (szFlowLineS_any bo cb ms r1 w1 hr1 hr1u hy HM2.out (HJ.out.later HB1.out)).mono ?_
  rintro e w2 ⟨r2, rfl, hr2, hb2⟩
  have HB2 : Hid (Below w.heap.size w w2) := HB1.out.trans (hb2.mono HB1.out.size)
  clear hb2
  rcases hr2 with ⟨rfl, _⟩ | ⟨hr2, hr2'⟩
  ·go_wp2
   go_ret
   exact ⟨rfl, HB2.out⟩
  have hbulk : bulkLs ls + bulkLs ms ≤ 1048576 := by have := HR1.out; omega
  have hr2n : ¬ r2 < 0 := by omega
  obtain ⟨hlen, hzs⟩ := lnSz_of (show bulkLs ls ≤ 1048576 by omega)
  obtain ⟨hlen2, hzs2⟩ := lnSz_of (show bulkLs ms ≤ 1048576 by omega)
  have HZ : Hid (∀ l ∈ ls, LnSz l) := hzs
  have HZ2 : Hid (∀ l ∈ ms, LnSz l) := hzs2
  have HBk : Hid (bulkLs ls + bulkLs ms ≤ 1048576) := hbulk
  clear hr1 hr1u HR1 hr2' hzs hzs2 hbulk
  go_wp2_with fail
  refine (toFlowLineS_any ao ca ls w2 hlen HZ.out (HI.out.later HB2.out)).mono ?_
  rintro e w3 ⟨ps3, rfl, hb3, hp3, ho3⟩
  have HB3 : Hid (Below w.heap.size w w3) := HB2.out.trans (hb3.mono HB2.out.size)
  have HA_3 : Hid (OwnLn w2.heap.size w3 (.slice (some ⟨w2.heap.size, 0, none⟩) ls.length ls.length) ps3) := ho3
  have HP3 : Hid (ps3.map (·.1) = ls) := hp3
  have HZA : Hid (w2.heap.size ≤ w3.heap.size) := hb3.size
  clear hb3 hp3 ho3
  go_wp2_with fail
  refine (toFlowLineS_any bo cb ms w3 hlen2 HZ2.out (HJ.out.later HB3.out)).mono ?_
  rintro e w4 ⟨ps4, rfl, hb4, hp4, ho4⟩
  have HB4 : Hid (Below w.heap.size w w4) := HB3.out.trans (hb4.mono HB3.out.size)
  have HA_4 : Hid (OwnLn w2.heap.size w4 (.slice (some ⟨w2.heap.size, 0, none⟩) ls.length ls.length) ps3) := HA_3.out.below hb4
  have HB_4 : Hid (OwnLn w3.heap.size w4 (.slice (some ⟨w3.heap.size, 0, none⟩) ms.length ms.length) ps4) := ho4
  have HP4 : Hid (ps4.map (·.1) = ms) := hp4
  have HZB : Hid (w3.heap.size ≤ w4.heap.size) := hb4.size
  clear hb4 hp4 ho4
  go_wp2_with fail
  refine (verInsertS_any _ 0 _ _ _ ls ms f name w4 (Nat.le_refl _) hlen hlen2 (fun h => by cases h) hname HZ.out HZ2.out (own_ls HA_4.out HP3.out) (own_ls HB_4.out HP4.out)).mono ?_
  rintro e w5 hsw
  obtain ⟨so5, sc5, ok5, ps5, rfl, hb5, ho5, hs5⟩ := swapE_out hsw
  clear hsw
  have HB5 : Hid (Below w.heap.size w w5) := HB4.out.trans (hb5.mono HB4.out.size)
  have HA_5 : Hid (OwnLn w2.heap.size w5 (.slice (some ⟨w2.heap.size, 0, none⟩) ls.length ls.length) ps3) := HA_4.out.below hb5
  have HB_5 : Hid (OwnLn w3.heap.size w5 (.slice (some ⟨w3.heap.size, 0, none⟩) ms.length ms.length) ps4) := HB_4.out.below hb5
  have HW_5 : Hid (OwnLn w4.heap.size w5 (.slice so5 ps5.length sc5) ps5) := ho5
  have HZW : Hid (w4.heap.size ≤ w5.heap.size) := hb5.size
  have HS5 : Hid (SwL ls f f name ms ok5 (ps5.map (·.1))) := hs5
  clear hb5 ho5 hs5
  go_wp2_with fail
  refine (toFlowLineS_any ao ca ls w5 hlen HZ.out (HI.out.later HB5.out)).mono ?_
  rintro e w6 ⟨ps6, rfl, hb6, hp6, ho6⟩
  have HB6 : Hid (Below w.heap.size w w6) := HB5.out.trans (hb6.mono HB5.out.size)
  have HW_6 : Hid (OwnLn w4.heap.size w6 (.slice so5 ps5.length sc5) ps5) := HW_5.out.below hb6
  have HX_6 : Hid (OwnLn w5.heap.size w6 (.slice (some ⟨w5.heap.size, 0, none⟩) ls.length ls.length) ps6) := ho6
  have HP6 : Hid (ps6.map (·.1) = ls) := hp6
  have HZX : Hid (w5.heap.size ≤ w6.heap.size) := hb6.size
  clear hb6 hp6 ho6
  go_wp2_with fail
  refine (toFlowLineS_any bo cb ms w6 hlen2 HZ2.out (HJ.out.later HB6.out)).mono ?_
  rintro e w7 ⟨ps7, rfl, hb7, hp7, ho7⟩
  have HB7 : Hid (Below w.heap.size w w7) := HB6.out.trans (hb7.mono HB6.out.size)
  have HW_7 : Hid (OwnLn w4.heap.size w7 (.slice so5 ps5.length sc5) ps5) := HW_6.out.below hb7
  have HX_7 : Hid (OwnLn w5.heap.size w7 (.slice (some ⟨w5.heap.size, 0, none⟩) ls.length ls.length) ps6) := HX_6.out.below hb7
  have HY_7 : Hid (OwnLn w6.heap.size w7 (.slice (some ⟨w6.heap.size, 0, none⟩) ms.length ms.length) ps7) := ho7
  have HP7 : Hid (ps7.map (·.1) = ms) := hp7
  have HZY : Hid (w6.heap.size ≤ w7.heap.size) := hb7.size
  clear hb7 hp7 ho7
  go_wp2_with fail
  refine (verInsert_any _ 0 _ _ _ ls ms f name w7 (Nat.le_refl _) hlen hlen2 (fun h => by cases h) hname HZ.out HZ2.out (own_ls HX_7.out HP6.out) (own_ls HY_7.out HP7.out) (HE.out.later HB7.out)).mono ?_
  rintro e w8 hsw
  obtain ⟨so8, sc8, ok8, ps8, rfl, hb8, ho8, hs8⟩ := swapE_out hsw
  clear hsw
  have HB8 : Hid (Below w.heap.size w w8) := HB7.out.trans (hb8.mono HB7.out.size)
  have HW_8 : Hid (OwnLn w4.heap.size w8 (.slice so5 ps5.length sc5) ps5) := HW_7.out.below hb8
  have HX_8 : Hid (OwnLn w5.heap.size w8 (.slice (some ⟨w5.heap.size, 0, none⟩) ls.length ls.length) ps6) := HX_7.out.below hb8
  have HY_8 : Hid (OwnLn w6.heap.size w8 (.slice (some ⟨w6.heap.size, 0, none⟩) ms.length ms.length) ps7) := HY_7.out.below hb8
  have HG_8 : Hid (OwnLn w7.heap.size w8 (.slice so8 ps8.length sc8) ps8) := ho8
  have HZG : Hid (w7.heap.size ≤ w8.heap.size) := hb8.size
  obtain ⟨hok, hq⟩ := swL_same HS5.out hs8
  subst hok
  have HQ : Hid (ps8.map (·.1) = ps5.map (·.1)) := hq.symm
  have hl8 : ps8.length ≤ 60 := by have := swL_len hs8; rwa [List.length_map] at this
  have HA8 : Hid (∀ l ∈ ps8.map (·.1), l.2.args.length ≤ 1048576) := swL_args hs8 HZ.out HZ2.out hname
  have hkk : (ok5 != ok5) = false := by simp
  clear hb8 ho8 hs8 hq
  go_wp2_with fail
  refine (eq_own HG_8.out HW_8.out (by omega) HA8.out HQ.out).mono ?_
  rintro e w9 ⟨rfl, hb9⟩
  have HB9 : Hid (Below w.heap.size w w9) := HB8.out.trans (hb9.mono HB8.out.size)
  have HW_9 : Hid (OwnLn w4.heap.size w9 (.slice so5 ps5.length sc5) ps5) := HW_8.out.below hb9
  have HX_9 : Hid (OwnLn w5.heap.size w9 (.slice (some ⟨w5.heap.size, 0, none⟩) ls.length ls.length) ps6) := HX_8.out.below hb9
  have HY_9 : Hid (OwnLn w6.heap.size w9 (.slice (some ⟨w6.heap.size, 0, none⟩) ms.length ms.length) ps7) := HY_8.out.below hb9
  have HG_9 : Hid (OwnLn w7.heap.size w9 (.slice so8 ps8.length sc8) ps8) := HG_8.out.below hb9
  clear hb9
  go_wp2_with fail
  refine (toFlowLineS_any ao ca ls w9 hlen HZ.out (HI.out.later HB9.out)).mono ?_
  rintro e w10 ⟨ps10, rfl, hb10, hp10, ho10⟩
  have HB10 : Hid (Below w.heap.size w w10) := HB9.out.trans (hb10.mono HB9.out.size)
  have HW_10 : Hid (OwnLn w4.heap.size w10 (.slice so5 ps5.length sc5) ps5) := HW_9.out.below hb10
  have HX_10 : Hid (OwnLn w5.heap.size w10 (.slice (some ⟨w5.heap.size, 0, none⟩) ls.length ls.length) ps6) := HX_9.out.below hb10
  have HY_10 : Hid (OwnLn w6.heap.size w10 (.slice (some ⟨w6.heap.size, 0, none⟩) ms.length ms.length) ps7) := HY_9.out.below hb10
  have HG_10 : Hid (OwnLn w7.heap.size w10 (.slice so8 ps8.length sc8) ps8) := HG_9.out.below hb10
  have HC_10 : Hid (OwnLn w9.heap.size w10 (.slice (some ⟨w9.heap.size, 0, none⟩) ls.length ls.length) ps10) := ho10
  have HP10 : Hid (ps10.map (·.1) = ls) := hp10
  have HZC : Hid (w9.heap.size ≤ w10.heap.size) := hb10.size
  clear hb10 hp10 ho10
  have hl6 : ps6.length ≤ 1048576 := len_map HP6.out hlen
  have hl7 : ps7.length ≤ 1048576 := len_map HP7.out hlen2
  go_wp2_with fail
  refine (eq_own HX_10.out HC_10.out hl6 (by rw [HP6.out]; exact fun l hl => (HZ.out l hl).len) (by rw [HP6.out, HP10.out])).mono ?_
  rintro e w11 ⟨rfl, hb11⟩
  have HB11 : Hid (Below w.heap.size w w11) := HB10.out.trans (hb11.mono HB10.out.size)
  have HW_11 : Hid (OwnLn w4.heap.size w11 (.slice so5 ps5.length sc5) ps5) := HW_10.out.below hb11
  have HX_11 : Hid (OwnLn w5.heap.size w11 (.slice (some ⟨w5.heap.size, 0, none⟩) ls.length ls.length) ps6) := HX_10.out.below hb11
  have HY_11 : Hid (OwnLn w6.heap.size w11 (.slice (some ⟨w6.heap.size, 0, none⟩) ms.length ms.length) ps7) := HY_10.out.below hb11
  have HG_11 : Hid (OwnLn w7.heap.size w11 (.slice so8 ps8.length sc8) ps8) := HG_10.out.below hb11
  have HC_11 : Hid (OwnLn w9.heap.size w11 (.slice (some ⟨w9.heap.size, 0, none⟩) ls.length ls.length) ps10) := HC_10.out.below hb11
  clear hb11
  go_wp2_with fail
  refine (toFlowLineS_any bo cb ms w11 hlen2 HZ2.out (HJ.out.later HB11.out)).mono ?_
  rintro e w12 ⟨ps12, rfl, hb12, hp12, ho12⟩
  have HB12 : Hid (Below w.heap.size w w12) := HB11.out.trans (hb12.mono HB11.out.size)
  have HW_12 : Hid (OwnLn w4.heap.size w12 (.slice so5 ps5.length sc5) ps5) := HW_11.out.below hb12
  have HX_12 : Hid (OwnLn w5.heap.size w12 (.slice (some ⟨w5.heap.size, 0, none⟩) ls.length ls.length) ps6) := HX_11.out.below hb12
  have HY_12 : Hid (OwnLn w6.heap.size w12 (.slice (some ⟨w6.heap.size, 0, none⟩) ms.length ms.length) ps7) := HY_11.out.below hb12
  have HG_12 : Hid (OwnLn w7.heap.size w12 (.slice so8 ps8.length sc8) ps8) := HG_11.out.below hb12
  have HD_12 : Hid (OwnLn w11.heap.size w12 (.slice (some ⟨w11.heap.size, 0, none⟩) ms.length ms.length) ps12) := ho12
  have HP12 : Hid (ps12.map (·.1) = ms) := hp12
  have HZD : Hid (w11.heap.size ≤ w12.heap.size) := hb12.size
  clear hb12 hp12 ho12
  go_wp2_with fail
  refine (eq_own HY_12.out HD_12.out hl7 (by rw [HP7.out]; exact fun l hl => (HZ2.out l hl).len) (by rw [HP7.out, HP12.out])).mono ?_
  rintro e w13 ⟨rfl, hb13⟩
  have HB13 : Hid (Below w.heap.size w w13) := HB12.out.trans (hb13.mono HB12.out.size)
  have HW_13 : Hid (OwnLn w4.heap.size w13 (.slice so5 ps5.length sc5) ps5) := HW_12.out.below hb13
  have HX_13 : Hid (OwnLn w5.heap.size w13 (.slice (some ⟨w5.heap.size, 0, none⟩) ls.length ls.length) ps6) := HX_12.out.below hb13
  have HY_13 : Hid (OwnLn w6.heap.size w13 (.slice (some ⟨w6.heap.size, 0, none⟩) ms.length ms.length) ps7) := HY_12.out.below hb13
  have HG_13 : Hid (OwnLn w7.heap.size w13 (.slice so8 ps8.length sc8) ps8) := HG_12.out.below hb13
  have HD_13 : Hid (OwnLn w11.heap.size w13 (.slice (some ⟨w11.heap.size, 0, none⟩) ms.length ms.length) ps12) := HD_12.out.below hb13
  clear hb13
  have hmx : markEnd markLnN 1 ps6 ≤ 8000000 := by
   have h := ln_mark ps6 1
   rw [HP6.out] at h
   have h3 := HBk.out
   unfold bulkLs at h3
   have h4 := len_map HP6.out (Nat.le_refl _)
   omega
  have hmy : markEnd markLnN (markEnd markLnN 1 ps6) ps7 ≤ 16000000 := by
   have h := ln_mark ps7 (markEnd markLnN 1 ps6)
   rw [HP7.out] at h
   have h3 := HBk.out
   unfold bulkLs at h3
   have h4 := len_map HP7.out (Nat.le_refl _)
   omega
  have HCWX : Hid (w5.heap.size ≤ w5.heap.size) := Nat.le_refl _
  have HCWY : Hid (w5.heap.size ≤ w6.heap.size) := HZX.out
  have HCWG : Hid (w5.heap.size ≤ w7.heap.size) := Nat.le_trans HZX.out HZY.out
  have HCXY : Hid (w6.heap.size ≤ w6.heap.size) := Nat.le_refl _
  have HCXG : Hid (w6.heap.size ≤ w7.heap.size) := HZY.out
  have HCYG : Hid (w7.heap.size ≤ w7.heap.size) := Nat.le_refl _
  go_wp2_with fail
  have hmk := markFlowLineS_any _ ps6 _ 1 w13 (by omega) hl6 HX_13.out
  rw [show ((1 : Nat) : Int) = 1 from rfl] at hmk
  obtain ⟨kx, hkx⟩ : ∃ kx, kx = markEnd markLnN 1 ps6 := ⟨_, rfl⟩
  rw [← hkx] at hmk
  have HKkx : Hid (kx = markEnd markLnN 1 ps6) := hkx
  clear hkx
  refine Calls.mono hmk ?_
  clear hmk
  rintro e w14 ⟨rfl, ho14, hi14⟩
  have HB14 : Hid (Below w.heap.size w w14) := HB13.out.trans (hi14.below HB13.out.size (fun k hk => by have h1 := (HX_13.out.lt hk).1; have h2 := HB5.out.size; omega))
  have HW_14 : Hid (OwnLn w4.heap.size w14 (.slice so5 ps5.length sc5) ps5) := HW_13.out.inn hi14 (fun k hk hx => by have h1 := (HW_5.out.lt hk).2; have h2 := (HX_13.out.lt hx).1; have h3 := HCWX.out; omega)
  have HY_14 : Hid (OwnLn w6.heap.size w14 (.slice (some ⟨w6.heap.size, 0, none⟩) ms.length ms.length) ps7) := HY_13.out.inn hi14 (fun k hk hx => by have h1 := (HY_13.out.lt hk).1; have h2 := (HX_6.out.lt (by first | exact hx | (rw [← blocks_sameX] ; exact hx))).2; have h3 := HCXY.out; omega)
  have HG_14 : Hid (OwnLn w7.heap.size w14 (.slice so8 ps8.length sc8) ps8) := HG_13.out.inn hi14 (fun k hk hx => by have h1 := (HG_13.out.lt hk).1; have h2 := (HX_6.out.lt (by first | exact hx | (rw [← blocks_sameX] ; exact hx))).2; have h3 := HCXG.out; omega)
  clear ho14 hi14
  rw [← HKkx.out] at hmy
  go_wp2_with fail
  have hmk := markFlowLineS_any _ ps7 _ kx w14 (by omega) hl7 HY_14.out
  obtain ⟨ky, hky⟩ : ∃ ky, ky = markEnd markLnN kx ps7 := ⟨_, rfl⟩
  rw [← hky] at hmk
  have HKky : Hid (ky = markEnd markLnN kx ps7) := hky
  clear hky
  refine Calls.mono hmk ?_
  clear hmk
  rintro e w15 ⟨rfl, ho15, hi15⟩
  have HB15 : Hid (Below w.heap.size w w15) := HB14.out.trans (hi15.below HB14.out.size (fun k hk => by have h1 := (HY_14.out.lt hk).1; have h2 := HB6.out.size; omega))
  have HW_15 : Hid (OwnLn w4.heap.size w15 (.slice so5 ps5.length sc5) ps5) := HW_14.out.inn hi15 (fun k hk hx => by have h1 := (HW_5.out.lt hk).2; have h2 := (HY_14.out.lt hx).1; have h3 := HCWY.out; omega)
  have HG_15 : Hid (OwnLn w7.heap.size w15 (.slice so8 ps8.length sc8) ps8) := HG_14.out.inn hi15 (fun k hk hx => by have h1 := (HG_14.out.lt hk).1; have h2 := (HY_7.out.lt (by first | exact hx | (rw [← blocks_sameY] ; exact hx))).2; have h3 := HCYG.out; omega)
  clear ho15 hi15
  rw [← HKky.out] at hmy
  have hky : ¬ (ky : Int) < 0 := by omega
  go_wp2_with fail
  refine (eq_own HG_15.out HW_15.out (by omega) HA8.out HQ.out).mono ?_
  rintro e w16 ⟨rfl, hb16⟩
  have HB16 : Hid (Below w.heap.size w w16) := HB15.out.trans (hb16.mono HB15.out.size)
  have HW_16 : Hid (OwnLn w4.heap.size w16 (.slice so5 ps5.length sc5) ps5) := HW_15.out.below hb16
  have HG_16 : Hid (OwnLn w7.heap.size w16 (.slice so8 ps8.length sc8) ps8) := HG_15.out.below hb16
  clear hb16
  have hmg : markEnd markLnN 1 ps8 ≤ 4000000000 := by
   have h := ln_mark2 1048576 ps8 1 (fun p hp => HA8.out _ (List.mem_map_of_mem hp))
   omega
  go_wp2_with fail
  have hmk := markFlowLineS_any _ ps8 _ 1 w16 hmg (by omega) HG_16.out
  rw [show ((1 : Nat) : Int) = 1 from rfl] at hmk
  obtain ⟨mg, hmg⟩ : ∃ mg, mg = markEnd markLnN 1 ps8 := ⟨_, rfl⟩
  rw [← hmg] at hmk
  have HKmg : Hid (mg = markEnd markLnN 1 ps8) := hmg
  clear hmg
  refine Calls.mono hmk ?_
  clear hmk
  rintro e w17 ⟨rfl, ho17, hi17⟩
  have HB17 : Hid (Below w.heap.size w w17) := HB16.out.trans (hi17.below HB16.out.size (fun k hk => by have h1 := (HG_16.out.lt hk).1; have h2 := HB7.out.size; omega))
  have HW_17 : Hid (OwnLn w4.heap.size w17 (.slice so5 ps5.length sc5) ps5) := HW_16.out.inn hi17 (fun k hk hx => by have h1 := (HW_5.out.lt hk).2; have h2 := (HG_16.out.lt hx).1; have h3 := HCWG.out; omega)
  have HG_17 : Hid (OwnLn w7.heap.size w17 (.slice so8 ps8.length sc8) (markP markLn markLnN 1 ps8)) := ho17
  clear ho17 hi17
  go_wp2_with fail
  have hhe := held_own HG_17.out hmg (by omega)
  rw [← HKmg.out] at hhe
  refine Calls.mono hhe ?_
  clear hhe
  rintro e w18 ⟨rfl, hb18⟩
  have HB18 : Hid (Below w.heap.size w w18) := HB17.out.trans (hb18.mono HB17.out.size)
  have HW_18 : Hid (OwnLn w4.heap.size w18 (.slice so5 ps5.length sc5) ps5) := HW_17.out.below hb18
  have HG_18 : Hid (OwnLn w7.heap.size w18 (.slice so8 ps8.length sc8) (markP markLn markLnN 1 ps8)) := HG_17.out.below hb18
  clear hb18
  have hmg0 : ¬ (mg : Int) < 0 := by omega
  go_wp2_with fail
  refine (toFlowLineS_any ao ca ls w18 hlen HZ.out (HI.out.later HB18.out)).mono ?_
  rintro e w19 ⟨ps19, rfl, hb19, hp19, ho19⟩
  have HB19 : Hid (Below w.heap.size w w19) := HB18.out.trans (hb19.mono HB18.out.size)
  have HW_19 : Hid (OwnLn w4.heap.size w19 (.slice so5 ps5.length sc5) ps5) := HW_18.out.below hb19
  have HG_19 : Hid (OwnLn w7.heap.size w19 (.slice so8 ps8.length sc8) (markP markLn markLnN 1 ps8)) := HG_18.out.below hb19
  have HE_19 : Hid (OwnLn w18.heap.size w19 (.slice (some ⟨w18.heap.size, 0, none⟩) ls.length ls.length) ps19) := ho19
  have HP19 : Hid (ps19.map (·.1) = ls) := hp19
  have HZE : Hid (w18.heap.size ≤ w19.heap.size) := hb19.size
  clear hb19 hp19 ho19
  go_wp2_with fail
  refine (toFlowLineS_any bo cb ms w19 hlen2 HZ2.out (HJ.out.later HB19.out)).mono ?_
  rintro e w20 ⟨ps20, rfl, hb20, hp20, ho20⟩
  have HB20 : Hid (Below w.heap.size w w20) := HB19.out.trans (hb20.mono HB19.out.size)
  have HW_20 : Hid (OwnLn w4.heap.size w20 (.slice so5 ps5.length sc5) ps5) := HW_19.out.below hb20
  have HG_20 : Hid (OwnLn w7.heap.size w20 (.slice so8 ps8.length sc8) (markP markLn markLnN 1 ps8)) := HG_19.out.below hb20
  have HE_20 : Hid (OwnLn w18.heap.size w20 (.slice (some ⟨w18.heap.size, 0, none⟩) ls.length ls.length) ps19) := HE_19.out.below hb20
  have HF_20 : Hid (OwnLn w19.heap.size w20 (.slice (some ⟨w19.heap.size, 0, none⟩) ms.length ms.length) ps20) := ho20
  have HP20 : Hid (ps20.map (·.1) = ms) := hp20
  have HZF : Hid (w19.heap.size ≤ w20.heap.size) := hb20.size
  clear hb20 hp20 ho20
  go_wp2_with fail
  refine (verInsert_any _ 0 _ _ _ ls ms f name w20 (Nat.le_refl _) hlen hlen2 (fun h => by cases h) hname HZ.out HZ2.out (own_ls HE_20.out HP19.out) (own_ls HF_20.out HP20.out) (HE.out.later HB20.out)).mono ?_
  rintro e w21 hsw
  obtain ⟨so21, sc21, ok21, ps21, rfl, hb21, ho21, hs21⟩ := swapE_out hsw
  clear hsw
  have HB21 : Hid (Below w.heap.size w w21) := HB20.out.trans (hb21.mono HB20.out.size)
  have HW_21 : Hid (OwnLn w4.heap.size w21 (.slice so5 ps5.length sc5) ps5) := HW_20.out.below hb21
  have HG_21 : Hid (OwnLn w7.heap.size w21 (.slice so8 ps8.length sc8) (markP markLn markLnN 1 ps8)) := HG_20.out.below hb21
  have HE_21 : Hid (OwnLn w18.heap.size w21 (.slice (some ⟨w18.heap.size, 0, none⟩) ls.length ls.length) ps19) := HE_20.out.below hb21
  have HF_21 : Hid (OwnLn w19.heap.size w21 (.slice (some ⟨w19.heap.size, 0, none⟩) ms.length ms.length) ps20) := HF_20.out.below hb21
  have HK_21 : Hid (OwnLn w20.heap.size w21 (.slice so21 ps21.length sc21) ps21) := ho21
  have HZK : Hid (w20.heap.size ≤ w21.heap.size) := hb21.size
  obtain ⟨hok, hq⟩ := swL_same HS5.out hs21
  subst hok
  have HQ21 : Hid (ps21.map (·.1) = ps5.map (·.1)) := hq.symm
  have hl21 : ps21.length ≤ 60 := by have := swL_len hs21; rwa [List.length_map] at this
  have HA21 : Hid (∀ l ∈ ps21.map (·.1), l.2.args.length ≤ 1048576) := swL_args hs21 HZ.out HZ2.out hname
  clear hb21 ho21 hs21 hq
  go_wp2_with fail
  refine (eq_own HK_21.out HW_21.out (by omega) HA21.out HQ21.out).mono ?_
  rintro e w22 ⟨rfl, hb22⟩
  have HB22 : Hid (Below w.heap.size w w22) := HB21.out.trans (hb22.mono HB21.out.size)
  have HW_22 : Hid (OwnLn w4.heap.size w22 (.slice so5 ps5.length sc5) ps5) := HW_21.out.below hb22
  have HG_22 : Hid (OwnLn w7.heap.size w22 (.slice so8 ps8.length sc8) (markP markLn markLnN 1 ps8)) := HG_21.out.below hb22
  have HK_22 : Hid (OwnLn w20.heap.size w22 (.slice so21 ps21.length sc21) ps21) := HK_21.out.below hb22
  clear hb22
  go_wp2_with fail
  have hhe := held_own HG_22.out hmg (by omega)
  rw [← HKmg.out] at hhe
  refine Calls.mono hhe ?_
  clear hhe
  rintro e w23 ⟨rfl, hb23⟩
  have HB23 : Hid (Below w.heap.size w w23) := HB22.out.trans (hb23.mono HB22.out.size)
  have HW_23 : Hid (OwnLn w4.heap.size w23 (.slice so5 ps5.length sc5) ps5) := HW_22.out.below hb23
  have HG_23 : Hid (OwnLn w7.heap.size w23 (.slice so8 ps8.length sc8) (markP markLn markLnN 1 ps8)) := HG_22.out.below hb23
  have HK_23 : Hid (OwnLn w20.heap.size w23 (.slice so21 ps21.length sc21) ps21) := HK_22.out.below hb23
  clear hb23
  go_wp2
  go_ret
  exact ⟨rfl, HB23.out⟩
 ·have hng : (name.size : Int) > 1048576 := by omega
  go_enter Tryz.func6, Tryz.ntmps6
  go_wp2
  go_ret
  exact ⟨rfl, Below.refl _ _⟩
end
section
open Go.RowKit Go.ChangeShapes Go.WideShapes Go.Deep
section
variable {H : Type} {enc : TypeId × Value → H} {P : Program} {w : World} {base : Nat} {spare : Nat → Bool} {held : Bool}
theorem trod_struct5 {t : TypeId} {f0 f1 f2 f3 f4 : Field} {fuel : Nat} {cs : List Value} {x : DataW H × List MemPlace} (ht : P.underlying t = some (.struct #[f0, f1, f2, f3, f4])) (h : DataW.trod enc P w base spare held fuel t cs = some x) :
  ∃ y0 y1 y2 y3 y4 n, cs.length = P.cellsOf t ∧ DataW.trod enc P w base spare held n f0.type ((cs.drop f0.offset).take (P.cellsOf f0.type)) = some y0 ∧
   DataW.trod enc P w base spare held n f1.type ((cs.drop f1.offset).take (P.cellsOf f1.type)) = some y1 ∧ DataW.trod enc P w base spare held n f2.type ((cs.drop f2.offset).take (P.cellsOf f2.type)) = some y2 ∧
   DataW.trod enc P w base spare held n f3.type ((cs.drop f3.offset).take (P.cellsOf f3.type)) = some y3 ∧ DataW.trod enc P w base spare held n f4.type ((cs.drop f4.offset).take (P.cellsOf f4.type)) = some y4 := by
 obtain ⟨xs, n, _, rfl, hl, hlen, hf⟩ := DataW.trod_struct ht h
 match xs, hlen with
 | [y0, y1, y2, y3, y4], _ => exact ⟨y0, y1, y2, y3, y4, n, hl, by simpa using hf 0 f0 rfl, by simpa using hf 1 f1 rfl, by simpa using hf 2 f2 rfl, by simpa using hf 3 f3 rfl, by simpa using hf 4 f4 rfl⟩
theorem list5 {α : Type} {l : List α} (h : l.length = 5) : ∃ c0 c1 c2 c3 c4, l = [c0, c1, c2, c3, c4] := by
 match l, h with
 | [c0, c1, c2, c3, c4], _ => exact ⟨c0, c1, c2, c3, c4, rfl⟩
theorem add_none (b off k : Nat) : (⟨b, off, none⟩ : Addr).add k = ⟨b, off + k, none⟩ := by
 unfold Addr.add
 split
 ·rename_i h; subst h; rfl
 ·rfl
theorem cell_lt {W : World} {b o : Nat} {v : Value} (h : W.cell? ⟨b, o, none⟩ = some v) : b < W.heap.size := by
 apply Classical.byContradiction
 intro hn
 have : W.heap[b]? = none := by simp; omega
 simp [World.cell?, this] at h
end
theorem cellsLn : Tryz.prog.cellsOf 57 = 5 := by kernel_rfl
theorem cellsI : Tryz.prog.cellsOf 3 = 1 := by kernel_rfl
theorem cellsT : Tryz.prog.cellsOf 9 = 1 := by kernel_rfl
theorem cellsTs : Tryz.prog.cellsOf 45 = 1 := by kernel_rfl
section
variable {H : Type} {enc : TypeId × Value → H} {W : World} {base : Nat} {spare : Nat → Bool} {held : Bool}
theorem open_args {n : Nat} {c : Value} {y : DataW H × List MemPlace} (h : DataW.trod enc Tryz.prog W base spare held n 45 [c] = some y) :
  ∃ ao cap ss, c = .slice ao ss.length cap ∧ ss.length ≤ cap ∧ ss.length ≤ 9223372036854775807 ∧ (∀ s ∈ ss, s.size ≤ 9223372036854775807) ∧ StrsAt 0 W.heap.size W ao ss := by
 rcases open_strs Tryz.underlying45 Tryz.underlying9 cellsT h with ⟨e, _⟩ | ⟨a, len, cap, m, Sx, e, _, hl, hm, hmm, _, hx⟩
 ·simp only [List.cons.injEq, and_true] at e
  subst e
  exact ⟨none, 0, [], rfl, Nat.le_refl _, Nat.zero_le _, fun s hs => by simp at hs, fun k hk => by simp at hk⟩
 ·simp only [List.cons.injEq, and_true] at e
  subst e
  have hlm : len ≤ m := by rw [hmm]; split <;> omega
  have e1 : ((List.range len).map Sx).length = len := by simp
  unfold maxLen at hm
  refine ⟨some a, cap, (List.range len).map Sx, by rw [e1], by rw [e1]; exact hl, by rw [e1]; omega, ?_, fun k hk => ?_⟩
  ·intro s hs
   obtain ⟨i, hi, rfl⟩ := List.mem_map.1 hs
   have := (hx i (by have := List.mem_range.1 hi; omega)).2
   unfold maxLen at this
   omega
  ·rw [e1] at hk
   have hc0 := (hx 0 (by omega)).1
   have hck := (hx k (by omega)).1
   obtain ⟨b, off, sp⟩ := a
   have hsp : sp = none := by simpa [Addr.add] using World.cell?_spot hc0
   subst hsp
   rw [add_none] at hck
   refine ⟨b, off, rfl, ⟨Nat.zero_le _, cell_lt hck⟩, ?_⟩
   rw [hck]
   simp [List.getD, hk]
theorem open_line {n b o : Nat} {cs : List Value} {x : DataW H × List MemPlace} (hc : ∀ k (hk : k < cs.length), W.cell? ⟨b, o + k, none⟩ = some cs[k]) (h : DataW.trod enc Tryz.prog W base spare held n 57 cs = some x) :
  ∃ l : Ln, LineAt W.heap.size W b o l ∧ LnMx l := by
 obtain ⟨y0, y1, y2, y3, y4, m, hl, h0, h1, h2, h3, h4⟩ := trod_struct5 Tryz.underlying57 h
 rw [cellsLn] at hl
 obtain ⟨c0, c1, c2, c3, c4, rfl⟩ := list5 hl
 simp only [cellsI, cellsT, cellsTs, List.drop_zero, List.drop_succ_cons, List.take_succ_cons, List.take_zero] at h0 h1 h2 h3 h4
 obtain ⟨id, e0, _, wid⟩ := DataW.trod_int Tryz.underlying3 h0
 obtain ⟨tt, e1, _, hto⟩ := DataW.trod_string Tryz.underlying9 h1
 obtain ⟨name, e2, _, hname⟩ := DataW.trod_string Tryz.underlying9 h2
 obtain ⟨ao, cap, ss, e3, hcap, hlen, hsz, hss⟩ := open_args h3
 obtain ⟨undo, e4, _, hundo⟩ := DataW.trod_string Tryz.underlying9 h4
 simp only [List.cons.injEq, and_true] at e0 e1 e2 e4
 subst e0 e1 e2 e3 e4
 unfold maxLen at hto hname hundo
 have k0 := hc 0 (by simp)
 have k1 := hc 1 (by simp)
 have k2 := hc 2 (by simp)
 have k3 := hc 3 (by simp)
 have k4 := hc 4 (by simp)
 exact ⟨(id, ⟨tt, name, ss, undo⟩), ⟨ao, cap, hcap, k0, k1, k2, k3, k4, hss⟩, ⟨hlen, by show tt.size ≤ _; omega, by show name.size ≤ _; omega, by show undo.size ≤ _; omega, hsz⟩⟩
theorem open_lines {r : Reach} {b0 : Nat} {v : Value} {d : DataW H} {p : List MemPlace} (hv : Value.okWide Tryz.prog W r b0 22 v) (h : DataW.Trod enc Tryz.prog W base spare held 22 v d p) :
  ∃ ao cap ls, v = .slice ao ls.length cap ∧ ls.length ≤ cap ∧ ls.length ≤ 9223372036854775807 ∧ (∀ l ∈ ls, LnMx l) ∧ LinesAt W.heap.size W ao ls := by
 obtain ⟨va, vl, vc, rfl⟩ := okWide_slice Tryz.underlying22 hv
 obtain ⟨fuel, h⟩ := h
 rcases open_slice Tryz.underlying22 h with ⟨e, _⟩ | ⟨a, len, cap, m, n, D, Pl, e, _, hl, hm, hmm, _, hx⟩
 ·have e' : Value.slice va vl vc = .slice none 0 0 := (List.cons.inj e).1
  rw [e']
  exact ⟨none, 0, [], rfl, Nat.le_refl _, Nat.zero_le _, fun l hl => by simp at hl, LinesAt.nil⟩
 ·have e' : Value.slice va vl vc = .slice (some a) len cap := (List.cons.inj e).1
  rw [e']
  have hlm : len ≤ m := by rw [hmm]; split <;> omega
  have each : ∀ i, i < len → ∃ l : Ln, (∃ b off, some a = some (⟨b, off, none⟩ : Addr) ∧ b < W.heap.size ∧ LineAt W.heap.size W b (off + i * 5) l) ∧ LnMx l := by
   intro i hi
   obtain ⟨cs', h1, h2⟩ := hx i (by omega)
   rw [cellsLn] at h1
   obtain ⟨_, hlen, hcell⟩ := World.cells?_some h1
   obtain ⟨c0, c1, c2, c3, c4, rfl⟩ := list5 hlen
   obtain ⟨cs0, g1, _⟩ := hx 0 (by omega)
   rw [cellsLn] at g1
   obtain ⟨_, hlen0, hcell0⟩ := World.cells?_some g1
   obtain ⟨z0, z1, z2, z3, z4, rfl⟩ := list5 hlen0
   have q0 : W.cell? ((a.add (0 * 5)).add 0) = some z0 := hcell0 0 (by decide)
   obtain ⟨b, off, sp⟩ := a
   have hsp : sp = none := by
    have := World.cell?_spot q0
    simpa [Addr.add] using this
   subst hsp
   have hc : ∀ k (hk : k < [c0, c1, c2, c3, c4].length), W.cell? ⟨b, off + i * 5 + k, none⟩ = some [c0, c1, c2, c3, c4][k] := by
    intro k hk
    have := hcell k (by simpa using hk)
    rw [add_none, add_none] at this
    rw [this]
    simp
   obtain ⟨l, hl1, hl2⟩ := open_line hc h2
   exact ⟨l, ⟨b, off, rfl, cell_lt (hc 0 (by simp)), hl1⟩, hl2⟩
  haveI : Inhabited Ln := ⟨(0, ⟨eS, eS, [], eS⟩)⟩
  obtain ⟨f, hf⟩ := choose_lt each
  have e1 : ((List.range len).map f).length = len := by simp
  unfold maxLen at hm
  refine ⟨some a, cap, (List.range len).map f, by rw [e1], by rw [e1]; exact hl, by rw [e1]; omega, ?_, ?_⟩
  ·intro l hl
   obtain ⟨i, hi, rfl⟩ := List.mem_map.1 hl
   exact (hf i (List.mem_range.1 hi)).2
  ·intro k hk
   rw [e1] at hk
   obtain ⟨b, off, e2, hb, hl⟩ := (hf k hk).1
   refine ⟨b, off, e2, hb, ?_⟩
   rw [List.getElem_map, List.getElem_range]
   exact hl
end
end
section
open Go.RowKit
theorem var_same {P : Program} {W : World} {n m : String} {g : Nat} (hn : P.globalNamed n = some g) (hm : P.globalNamed m = some g) : W.var? P n = W.var? P m := by
 unfold World.var?; rw [hn, hm]
theorem gPow : Tryz.prog.globalNamed "internal/strconv.uint64pow10" = some 1 := by kernel_rfl
theorem gPowT : (Tryz.prog.globals[1]?).map (·.type) = some 218 := by kernel_rfl
theorem gErr : Tryz.prog.globalNamed "errors.errorType" = some 0 := by kernel_rfl
theorem gFar : Tryz.prog.globalNamed "strconv.ErrRange" = some 6 := by kernel_rfl
theorem gFarT : (Tryz.prog.globals[6]?).map (·.type) = some 76 := by kernel_rfl
theorem gBad : Tryz.prog.globalNamed "strconv.ErrSyntax" = some 5 := by kernel_rfl
theorem gBadT : (Tryz.prog.globals[5]?).map (·.type) = some 76 := by kernel_rfl
theorem cells64 : Tryz.prog.cellsOf 202 = 1 := by kernel_rfl
theorem cellsPow : Tryz.prog.cellsOf 218 = 20 := by kernel_rfl
theorem cellsEs : Tryz.prog.cellsOf 252 = 1 := by kernel_rfl
theorem cellsStr : Tryz.prog.cellsOf 9 = 1 := by kernel_rfl
theorem starEs : "*" ++ "errors.errorString" = "*errors.errorString" := by decide
theorem rowEs (u : TypeId) (h : Tryz.prog.typeName? 3 u = some "*errors.errorString") : u = 250 :=
 typeName_ptr_named (nm := "errors.errorString") (by rw [starEs]; kernel_rfl) (by kernel_rfl) (by decide) u (by rw [starEs]; exact h)
theorem rtT : (Tryz.prog.cutTypes.find? (·.1 == "internal/reflectlite.rtype")).map (·.2) = some 185 := by kernel_rfl
theorem oneRow : ((List.range 279).filter fun t => Tryz.prog.rowNamed t [101, 114, 114, 111, 114]) = [76] := by kernel_rfl
theorem sizeTy : Tryz.prog.types.size = 279 := by kernel_rfl
theorem env_of_laid {W : World} (h : laidMetH Tryz.prog Rows.fnExactFlowMakeRow.laid W) : Env W := by
 have h' : laidMet Tryz.prog [("math/bits.deBruijn32tab", Rows.laid_math_bits_deBruijn32tab), ("math/bits.deBruijn64tab", Rows.laid_math_bits_deBruijn64tab), ("internal/strconv.uint64pow10", Rows.laid_internal_strconv_uint64pow10), ("strconv.ErrRange", Rows.laid_strconv_ErrRange), ("strconv.ErrSyntax", Rows.laid_strconv_ErrSyntax)] W ∧ handlesMet Tryz.prog [("errors.errorType", Rows.laid_errors_errorType)] W := h
 obtain ⟨hl, hh⟩ := h'
 have hp := hl.tail.tail
 have hr := hp.tail
 have hb := hr.tail
 have tab : Lib.TabIs Tryz.prog W "internal/strconv.uint64pow10" .u64 Lib.pow10Tab := Lib.tabIs_of_head gPow gPowT Tryz.underlying218 Tryz.underlying202 cells64 cellsPow hp
 obtain ⟨a1, _, hv1, _⟩ := laid_sentinel hr gFar gFarT Tryz.underlying76 rowEs Tryz.underlying250 Tryz.underlying252 rfl rfl Tryz.underlying9 cellsEs cellsStr
 obtain ⟨a2, _, hv2, _⟩ := laid_sentinel hb gBad gBadT Tryz.underlying76 rowEs Tryz.underlying250 Tryz.underlying252 rfl rfl Tryz.underlying9 cellsEs cellsStr
 obtain ⟨name, u, ty, e1, e2, e3, e4, e5⟩ := hh _ (List.mem_singleton.2 rfl)
 have en : name = [101, 114, 114, 111, 114] := (Option.some.inj e1).symm
 subst en
 obtain rfl := Option.some.inj (rtT.symm.trans e2)
 have hm : ty ∈ (List.range 279).filter fun t => Tryz.prog.rowNamed t [101, 114, 114, 111, 114] := List.mem_filter.2 ⟨List.mem_range.2 (by rw [← sizeTy]; exact e3), e4⟩
 rw [oneRow] at hm
 obtain rfl := List.mem_singleton.1 hm
 have hty : typeHandle Tryz.prog 76 = .pointer (some ⟨7, 76, none⟩) := by kernel_rfl
 rw [hty] at e5
 refine ⟨fun n hn => ?_, ⟨_, _, fun n hn => (var_same hn gBad).trans hv2⟩, ⟨_, _, fun n hn => (var_same hn gFar).trans hv1⟩, fun n hn => (var_same hn gErr).trans e5⟩
 unfold Lib.TabIs at tab ⊢
 exact (var_same hn gPow).trans tab
end
end Go.Proofs.YtlbjjbolbopfmaaGreatDoor
