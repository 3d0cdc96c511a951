import Derived.Test.YtlbjjbolbopfmaaGreatDoorG42
import Derived.Test.YtlbjjbolbopfmaaGreatDoorG20
import Derived.Test.YtlbjjbolbopfmaaGreatDoorG21
import Derived.Test.YtlbjjbolbopfmaaGreatDoorG28
import Derived.Deep.Slices
import Derived.Deep.Strs
import Derived.ProofKit
import Derived.Test.YtlbjjbolbopfmaaGreatDoorRows
import Derived.Test.YtlbjjbolbopfmaaGreatDoorG01
import Derived.Lib.LaidTab
import Derived.Stop.LaidErr
import Derived.LaidLaws
import Derived.LaidHandle
namespace Go.Proofs.YtlbjjbolbopfmaaGreatDoor
set_option maxHeartbeats 8000000
set_option maxRecDepth 1000000
set_option linter.unusedVariables false
section
open Go.RowKit
theorem law_make (ao : Option Addr) (cap : Nat) (ls : List Ln) (w : World) (hcap : ls.length ≤ cap) (hx : ls.length ≤ 9223372036854775807) (hm : ∀ l ∈ ls, LnMx l) (hi : LinesAt w.heap.size w ao ls) (he : Env w) :
    Calls Tryz.prog 3 #[.slice ao ls.length cap] w fun e w' => e = .returned (.bool true) ∧ Below w.heap.size w w' := by
  have HI : Hid (LinesAt w.heap.size w ao ls) := hi
  have HM : Hid (∀ l ∈ ls, LnMx l) := hm
  have HE : Hid (Env w) := he
  clear hi hm he
  go_enter Tryz.func3, Tryz.ntmps3
  go_wp2_with fail
  refine (szFlowLineS_any ao cap ls 1048576 w (by omega) (by omega) hx HM.out HI.out).mono ?_
  rintro e w1 ⟨r, rfl, hr, hb1⟩
  have HB1 : Hid (Below w.heap.size w w1) := hb1
  rcases hr with ⟨rfl, _⟩ | ⟨hr0, hr1⟩
  · clear hb1
    go_wp2
    go_ret
    exact ⟨rfl, HB1.out⟩
  · have hbulk : bulkLs ls ≤ 1048576 := by omega
    obtain ⟨hlen, hzs⟩ := lnSz_of hbulk
    have HZ : Hid (∀ l ∈ ls, LnSz l) := hzs
    have hrn : ¬ r < 0 := by omega
    have HBk : Hid (bulkLs ls ≤ 1048576) := hbulk
    clear hr1 hzs hb1 hbulk
    go_wp2_with fail
    refine (toFlowLineS_any ao cap ls w1 hlen HZ.out (HI.out.later HB1.out)).mono ?_
    rintro e w2 ⟨ps2, rfl, hb2, hp2, ho2⟩
    have HB2 : Hid (Below w.heap.size w w2) := HB1.out.trans (hb2.mono HB1.out.size)
    have HL2 : Hid (LinesAt w2.heap.size w2 (some ⟨w1.heap.size, 0, none⟩) ls) := by
      obtain ⟨ao', cap', e, _, hl⟩ := own_lines ho2
      simp only [Value.slice.injEq] at e
      obtain ⟨rfl, _, _⟩ := e
      rw [hp2] at hl; exact hl
    clear hb2 hp2 ho2
    go_wp2_with fail
    refine (flowMakeS_any _ _ ls w2 (Nat.le_refl _) hlen HL2.out HZ.out).mono ?_
    rintro e w3 hmk
    obtain ⟨v3, ok3, ps3, base3, rfl, hb3, hmk3, hbs3, ho3⟩ := makeF_out hmk
    have HB3 : Hid (Below w.heap.size w w3) := HB2.out.trans (hb3.mono HB2.out.size)
    have HMk3 : Hid (MkL ls ok3 (ps3.map (·.1))) := hmk3
    obtain ⟨so3, sc3, rfl, _, hst3⟩ := OwnSt.steps ho3
    have HS3 : Hid (StepsAt w3.heap.size w3 so3 (ps3.map (·.1))) := hst3
    have hl3 := mkL_len hmk3
    rw [List.length_map] at hl3
    have HA3 : Hid (∀ s ∈ ps3.map (·.1), s.args.length ≤ 1048576) := mkL_args hmk3 HZ.out
    have HO3 : Hid (OwnStp base3 w3 (.slice so3 ps3.length sc3) ps3) := ho3
    clear hmk hb3 hmk3 hbs3 ho3 hst3
    go_wp2_with fail
    refine (toFlowLineS_any ao cap ls w3 hlen HZ.out (HI.out.later HB3.out)).mono ?_
    rintro e w4 ⟨ps4, rfl, hb4, hp4, ho4⟩
    have HB4 : Hid (Below w.heap.size w w4) := HB3.out.trans (hb4.mono HB3.out.size)
    have HB34 : Hid (Below w3.heap.size w3 w4) := hb4
    have HS4 : Hid (StepsAt w4.heap.size w4 so3 (ps3.map (·.1))) := HS3.out.later hb4
    have HL4 : Hid (LinesAt w4.heap.size w4 (some ⟨w3.heap.size, 0, none⟩) ls) := by
      obtain ⟨ao', cap', e, _, hl⟩ := own_lines ho4
      simp only [Value.slice.injEq] at e
      obtain ⟨rfl, _, _⟩ := e
      rw [hp4] at hl; exact hl
    have HP4 : Hid (ps4.map (·.1) = ls) := hp4
    have HO4 : Hid (OwnLn w3.heap.size w4 (.slice (some ⟨w3.heap.size, 0, none⟩) ls.length ls.length) ps4) := ho4
    clear hb4 hp4 ho4
    go_wp2_with fail
    refine (flowMake_any _ _ ls w4 (Nat.le_refl _) hlen HL4.out HZ.out (HE.out.later HB4.out)).mono ?_
    rintro e w5 hmk
    obtain ⟨v5, ok5, ps5, base5, rfl, hb5, hmk5, hbs5, ho5⟩ := makeF_out hmk
    obtain ⟨hok, hss⟩ := mkL_same HMk3.out hmk5
    subst hok
    have HB5 : Hid (Below w.heap.size w w5) := HB4.out.trans (hb5.mono HB4.out.size)
    have HB45 : Hid (Below w4.heap.size w4 w5) := hb5
    have HSS : Hid (ps3.map (·.1) = ps5.map (·.1)) := hss
    obtain ⟨so5, sc5, rfl, _, hst5⟩ := OwnSt.steps ho5
    have HO5 : Hid (OwnStp base5 w5 (.slice so5 ps5.length sc5) ps5) := ho5
    have HBS5 : Hid (w4.heap.size ≤ base5) := hbs5
    have HS5 : Hid (StepsAt w5.heap.size w5 so5 (ps5.map (·.1))) := hst5
    have HS35 : Hid (StepsAt w5.heap.size w5 so3 (ps3.map (·.1))) := HS4.out.later hb5
    have hl5 := mkL_len hmk5
    rw [List.length_map] at hl5
    have HA5 : Hid (∀ s ∈ ps5.map (·.1), s.args.length ≤ 1048576) := mkL_args hmk5 HZ.out
    clear hmk hb5 hmk5 hbs5 ho5 hst5 hss
    have HEq : Hid (∀ (W : World), StepsAt W.heap.size W so5 (ps5.map (·.1)) → StepsAt W.heap.size W so3 (ps3.map (·.1)) → Calls Tryz.prog 13 #[.slice so5 ps5.length sc5, .slice so3 ps3.length sc3] W fun e w' => e = .returned (.bool true) ∧ Below W.heap.size W w') := fun W h1 h2 => by
      have h := eqFlowStepS_any so5 so3 sc5 sc3 (ps5.map (·.1)) (ps3.map (·.1)) W (by rw [List.length_map]; omega) (by rw [List.length_map]; omega) HA5.out HA3.out h1 h2
      rw [List.length_map, List.length_map] at h
      refine h.mono ?_
      rintro e w' ⟨b, rfl, hb, hbl⟩
      exact ⟨by rw [hb.2 HSS.out.symm], hbl⟩
    go_wp2_with fail
    refine (HEq.out w5 HS5.out HS35.out).mono ?_
    rintro e w6 ⟨rfl, hb6⟩
    have HB56 : Hid (Below w5.heap.size w5 w6) := hb6
    have HB6 : Hid (Below w.heap.size w w6) := HB5.out.trans (hb6.mono HB5.out.size)
    clear hb6
    have hokk : (ok3 != ok3) = false := by simp
    go_wp2_with fail
    refine (toFlowLineS_any ao cap ls w6 hlen HZ.out (HI.out.later HB6.out)).mono ?_
    rintro e w7 ⟨ps7, rfl, hb7, hp7, ho7⟩
    have HB7 : Hid (Below w.heap.size w w7) := HB6.out.trans (hb7.mono HB6.out.size)
    have HB47 : Hid (Below w4.heap.size w4 w7) := HB45.out.trans ((HB56.out.trans (hb7.mono HB56.out.size)).mono HB45.out.size)
    have HB57 : Hid (Below w5.heap.size w5 w7) := HB56.out.trans (hb7.mono HB56.out.size)
    have HL7 : Hid (LinesAt w7.heap.size w7 (some ⟨w6.heap.size, 0, none⟩) ls) := by
      obtain ⟨ao', cap', e, _, hl⟩ := own_lines ho7
      simp only [Value.slice.injEq] at e
      obtain ⟨rfl, _, _⟩ := e
      rw [hp7] at hl; exact hl
    clear hb7 hp7 ho7
    go_wp2_with fail
    refine (eqFlowLineS_any _ _ _ _ ls ls w7 hlen hlen (fun l hl => (HZ.out l hl).len) (fun l hl => (HZ.out l hl).len) (HL4.out.later HB47.out) HL7.out).mono ?_
    rintro e w8 ⟨b, rfl, hb, hb8⟩
    have hbt : b = true := hb.2 rfl
    subst hbt
    have HB8 : Hid (Below w.heap.size w w8) := HB7.out.trans (hb8.mono HB7.out.size)
    have HB48 : Hid (Below w4.heap.size w4 w8) := HB47.out.trans (hb8.mono HB47.out.size)
    have HB58 : Hid (Below w5.heap.size w5 w8) := HB57.out.trans (hb8.mono HB57.out.size)
    clear hb hb8
    go_wp2_with fail
    have hmx : markEnd markLnN 1 ps4 ≤ 4000000000 := by
      have h := ln_mark ps4 1
      rw [HP4.out] at h
      have h2 : ps4.length = ls.length := by rw [← HP4.out]; simp
      have h3 := HBk.out
      unfold bulkLs at h3
      omega
    have hpl4 : ps4.length ≤ 1048576 := by have : ps4.length = ls.length := by rw [← HP4.out]; simp
                                           omega
    have hmk8 := markFlowLineS_any _ ps4 _ 1 w8 hmx hpl4 (HO4.out.below HB48.out)
    rw [show ((1 : Nat) : Int) = 1 from rfl] at hmk8
    obtain ⟨mE, hmE⟩ : ∃ mE, mE = markEnd markLnN 1 ps4 := ⟨_, rfl⟩
    rw [← hmE] at hmk8
    clear hmx hmE
    refine hmk8.mono ?_
    clear hmk8
    rintro e w9 ⟨rfl, _, hi9⟩
    have HI9 : Hid (Inn (blocksOf (.slice (some ⟨w3.heap.size, 0, none⟩) ls.length ls.length) ps4) w8 w9) := hi9
    clear hi9
    have HO59 : Hid (OwnStp base5 w9 (.slice so5 ps5.length sc5) ps5) := (HO5.out.below HB58.out).inn HI9.out fun k hk hx => by
      have h1 := (HO5.out.lt hk).1
      have h2 := (HO4.out.lt hx).2
      have h3 := HBS5.out
      omega
    have HO39 : Hid (OwnStp base3 w9 (.slice so3 ps3.length sc3) ps3) := (HO3.out.below (HB34.out.trans (HB48.out.mono HB34.out.size))).inn HI9.out fun k hk hx => by
      have h1 := (HO3.out.lt hk).2
      have h2 := (HO4.out.lt hx).1
      omega
    have st_of : ∀ (W : World) (base : Nat) (so : Option Addr) (sc : Nat) (qs : List (Stp × Value)), OwnStp base W (.slice so qs.length sc) qs → StepsAt W.heap.size W so (qs.map (·.1)) := fun W base so sc qs h => by
      obtain ⟨ao', cap', e, _, hl⟩ := OwnSt.steps h
      simp only [Value.slice.injEq] at e
      obtain ⟨rfl, _, _⟩ := e
      exact hl
    have HStO := (show Hid _ from st_of)
    clear st_of
    have hmE0 : ¬ (mE : Int) < 0 := by omega
    go_wp2_with fail
    refine (HEq.out w9 (HStO.out _ _ _ _ _ HO59.out) (HStO.out _ _ _ _ _ HO39.out)).mono ?_
    rintro e w10 ⟨rfl, hb10⟩
    have HO510 : Hid (OwnStp base5 w10 (.slice so5 ps5.length sc5) ps5) := HO59.out.below hb10
    have HO310 : Hid (OwnStp base3 w10 (.slice so3 ps3.length sc3) ps3) := HO39.out.below hb10
    have HB910 : Hid (Below w9.heap.size w9 w10) := hb10
    clear hb10
    go_wp2_with fail
    have hms : markEnd markStN 1 ps5 ≤ 4000000000 := by
      have h := st_mark 1048576 ps5 1 (fun p hp => HA5.out _ (List.mem_map_of_mem hp))
      omega
    have hmk10 := markFlowStepS_any _ ps5 base5 1 w10 hms (by omega) HO510.out
    rw [show ((1 : Nat) : Int) = 1 from rfl] at hmk10
    obtain ⟨sE, hsE⟩ : ∃ sE, sE = markEnd markStN 1 ps5 := ⟨_, rfl⟩
    have HSE : Hid (sE = markEnd markStN 1 ps5) := hsE
    have HMS : Hid (markEnd markStN 1 ps5 ≤ 4000000000) := hms
    rw [← hsE] at hmk10
    clear hms hsE
    refine hmk10.mono ?_
    clear hmk10
    rintro e w11 ⟨rfl, ho11, hi11⟩
    have HI11 : Hid (Inn (blocksOf (.slice so5 ps5.length sc5) ps5) w10 w11) := hi11
    have HS11 : Hid (StepsAt w11.heap.size w11 so5 (markL markSt markStN 1 (ps5.map (·.1)))) := by
      obtain ⟨ao', cap', e, _, hl⟩ := OwnSt.steps ho11
      simp only [Value.slice.injEq] at e
      obtain ⟨rfl, _, _⟩ := e
      rw [markP_map] at hl; exact hl
    clear hi11 ho11
    have hhe := heldFlowStepS_any so5 sc5 (ps5.map (·.1)) 1 w11 (by rw [endL_map]; exact HMS.out) (by rw [List.length_map]; omega) HS11.out
    rw [endL_map, List.length_map, ← HSE.out, show ((1 : Nat) : Int) = 1 from rfl] at hhe
    have HHe := (show Hid _ from hhe)
    clear hhe
    go_wp2_with fail
    refine Calls.mono HHe.out ?_
    rintro e w12 ⟨rfl, hb12⟩
    have HB1112 : Hid (Below w11.heap.size w11 w12) := hb12
    have hsE0 : ¬ (sE : Int) < 0 := by omega
    clear hb12
    have hb9 : Below w.heap.size w w9 := HB8.out.trans (HI9.out.below HB8.out.size fun k hx => by have := (HO4.out.lt hx).1; have := HB3.out.size; omega)
    have hb10 : Below w.heap.size w w10 := hb9.trans (HB910.out.mono hb9.size)
    have hb11 : Below w.heap.size w w11 := hb10.trans (HI11.out.below hb10.size fun k hx => by have := (HO5.out.lt hx).1; have := HBS5.out; have := HB4.out.size; omega)
    have HB12 : Hid (Below w.heap.size w w12) := hb11.trans (HB1112.out.mono hb11.size)
    have HO312 : Hid (OwnStp base3 w12 (.slice so3 ps3.length sc3) ps3) := (HO310.out.inn HI11.out fun k hk hx => by
      have h1 := (HO3.out.lt hk).2
      have h2 := (HO5.out.lt hx).1
      have h3 := HBS5.out
      have h4 := HB34.out.size
      omega).below HB1112.out
    have HS12 : Hid (StepsAt w12.heap.size w12 so5 (markL markSt markStN 1 (ps5.map (·.1)))) := HS11.out.later HB1112.out
    clear hb9 hb10 hb11
    go_wp2_with fail
    refine (toFlowLineS_any ao cap ls w12 hlen HZ.out (HI.out.later HB12.out)).mono ?_
    rintro e w13 ⟨ps13, rfl, hb13, hp13, ho13⟩
    have HB13 : Hid (Below w.heap.size w w13) := HB12.out.trans (hb13.mono HB12.out.size)
    have HB1213 : Hid (Below w12.heap.size w12 w13) := hb13
    have HL13 : Hid (LinesAt w13.heap.size w13 (some ⟨w12.heap.size, 0, none⟩) ls) := by
      obtain ⟨ao', cap', e, _, hl⟩ := own_lines ho13
      simp only [Value.slice.injEq] at e
      obtain ⟨rfl, _, _⟩ := e
      rw [hp13] at hl; exact hl
    clear hb13 hp13 ho13
    go_wp2_with fail
    refine (flowMake_any _ _ ls w13 (Nat.le_refl _) hlen HL13.out HZ.out (HE.out.later HB13.out)).mono ?_
    rintro e w14 hmk
    obtain ⟨v14, ok14, ps14, base14, rfl, hb14, hmk14, hbs14, ho14⟩ := makeF_out hmk
    obtain ⟨hok, hss⟩ := mkL_same HMk3.out hmk14
    subst hok
    obtain ⟨so14, sc14, rfl, _, hst14⟩ := OwnSt.steps ho14
    have hl14 := mkL_len hmk14
    rw [List.length_map] at hl14
    have HB1214 : Hid (Below w12.heap.size w12 w14) := HB1213.out.trans (hb14.mono HB1213.out.size)
    have HB14 : Hid (Below w.heap.size w w14) := HB12.out.trans (HB1214.out.mono HB12.out.size)
    have heq := eqFlowStepS_any so14 so3 sc14 sc3 (ps14.map (·.1)) (ps3.map (·.1)) w14 (by rw [List.length_map]; omega) (by rw [List.length_map]; omega) (mkL_args hmk14 HZ.out) HA3.out hst14 (HStO.out _ _ _ _ _ (HO312.out.below HB1214.out))
    rw [List.length_map, List.length_map] at heq
    have HQ14 := (show Hid _ from heq)
    have HSS14 : Hid (ps3.map (·.1) = ps14.map (·.1)) := hss
    clear hmk hb14 hmk14 hbs14 ho14 hst14 hss heq
    go_wp2_with fail
    refine Calls.mono HQ14.out ?_
    rintro e w15 ⟨b, rfl, hb, hb15⟩
    have hbt : b = true := hb.2 HSS14.out.symm
    subst hbt
    have HB1215 : Hid (Below w12.heap.size w12 w15) := HB1214.out.trans (hb15.mono HB1214.out.size)
    have HB15 : Hid (Below w.heap.size w w15) := HB12.out.trans (HB1215.out.mono HB12.out.size)
    clear hb hb15
    have hhe := heldFlowStepS_any so5 sc5 (ps5.map (·.1)) 1 w15 (by rw [endL_map]; exact HMS.out) (by rw [List.length_map]; omega) (HS12.out.later HB1215.out)
    rw [endL_map, List.length_map, ← HSE.out, show ((1 : Nat) : Int) = 1 from rfl] at hhe
    have HHe2 := (show Hid _ from hhe)
    clear hhe
    go_wp2_with fail
    refine Calls.mono HHe2.out ?_
    rintro e w16 ⟨rfl, hb16⟩
    have HB16 : Hid (Below w.heap.size w w16) := HB15.out.trans (hb16.mono HB15.out.size)
    clear hb16
    go_wp2
    go_ret
    exact ⟨rfl, HB16.out⟩
end
section
open Go.RowKit Go.ChangeShapes Go.WideShapes Go.Deep
section
variable {H : Type} {enc : TypeId × Value → H} {P : Program} {w : World} {base : Nat} {spare : Nat → Bool} {held : Bool}
theorem trod_struct5 {t : TypeId} {f0 f1 f2 f3 f4 : Field} {fuel : Nat} {cs : List Value} {x : DataW H × List MemPlace} (ht : P.underlying t = some (.struct #[f0, f1, f2, f3, f4])) (h : DataW.trod enc P w base spare held fuel t cs = some x) :
  ∃ y0 y1 y2 y3 y4 n, cs.length = P.cellsOf t ∧ DataW.trod enc P w base spare held n f0.type ((cs.drop f0.offset).take (P.cellsOf f0.type)) = some y0 ∧
   DataW.trod enc P w base spare held n f1.type ((cs.drop f1.offset).take (P.cellsOf f1.type)) = some y1 ∧ DataW.trod enc P w base spare held n f2.type ((cs.drop f2.offset).take (P.cellsOf f2.type)) = some y2 ∧
   DataW.trod enc P w base spare held n f3.type ((cs.drop f3.offset).take (P.cellsOf f3.type)) = some y3 ∧ DataW.trod enc P w base spare held n f4.type ((cs.drop f4.offset).take (P.cellsOf f4.type)) = some y4 := by
 obtain ⟨xs, n, _, rfl, hl, hlen, hf⟩ := DataW.trod_struct ht h
 match xs, hlen with
 | [y0, y1, y2, y3, y4], _ => exact ⟨y0, y1, y2, y3, y4, n, hl, by simpa using hf 0 f0 rfl, by simpa using hf 1 f1 rfl, by simpa using hf 2 f2 rfl, by simpa using hf 3 f3 rfl, by simpa using hf 4 f4 rfl⟩
theorem list5 {α : Type} {l : List α} (h : l.length = 5) : ∃ c0 c1 c2 c3 c4, l = [c0, c1, c2, c3, c4] := by
 match l, h with
 | [c0, c1, c2, c3, c4], _ => exact ⟨c0, c1, c2, c3, c4, rfl⟩
theorem add_none (b off k : Nat) : (⟨b, off, none⟩ : Addr).add k = ⟨b, off + k, none⟩ := by
 unfold Addr.add
 split
 ·rename_i h; subst h; rfl
 ·rfl
theorem cell_lt {W : World} {b o : Nat} {v : Value} (h : W.cell? ⟨b, o, none⟩ = some v) : b < W.heap.size := by
 apply Classical.byContradiction
 intro hn
 have : W.heap[b]? = none := by simp; omega
 simp [World.cell?, this] at h
end
theorem cellsLn : Tryz.prog.cellsOf 57 = 5 := by kernel_rfl
theorem cellsI : Tryz.prog.cellsOf 3 = 1 := by kernel_rfl
theorem cellsT : Tryz.prog.cellsOf 9 = 1 := by kernel_rfl
theorem cellsTs : Tryz.prog.cellsOf 45 = 1 := by kernel_rfl
section
variable {H : Type} {enc : TypeId × Value → H} {W : World} {base : Nat} {spare : Nat → Bool} {held : Bool}
theorem open_args {n : Nat} {c : Value} {y : DataW H × List MemPlace} (h : DataW.trod enc Tryz.prog W base spare held n 45 [c] = some y) :
  ∃ ao cap ss, c = .slice ao ss.length cap ∧ ss.length ≤ cap ∧ ss.length ≤ 9223372036854775807 ∧ (∀ s ∈ ss, s.size ≤ 9223372036854775807) ∧ StrsAt 0 W.heap.size W ao ss := by
 rcases open_strs Tryz.underlying45 Tryz.underlying9 cellsT h with ⟨e, _⟩ | ⟨a, len, cap, m, Sx, e, _, hl, hm, hmm, _, hx⟩
 ·simp only [List.cons.injEq, and_true] at e
  subst e
  exact ⟨none, 0, [], rfl, Nat.le_refl _, Nat.zero_le _, fun s hs => by simp at hs, fun k hk => by simp at hk⟩
 ·simp only [List.cons.injEq, and_true] at e
  subst e
  have hlm : len ≤ m := by rw [hmm]; split <;> omega
  have e1 : ((List.range len).map Sx).length = len := by simp
  unfold maxLen at hm
  refine ⟨some a, cap, (List.range len).map Sx, by rw [e1], by rw [e1]; exact hl, by rw [e1]; omega, ?_, fun k hk => ?_⟩
  ·intro s hs
   obtain ⟨i, hi, rfl⟩ := List.mem_map.1 hs
   have := (hx i (by have := List.mem_range.1 hi; omega)).2
   unfold maxLen at this
   omega
  ·rw [e1] at hk
   have hc0 := (hx 0 (by omega)).1
   have hck := (hx k (by omega)).1
   obtain ⟨b, off, sp⟩ := a
   have hsp : sp = none := by simpa [Addr.add] using World.cell?_spot hc0
   subst hsp
   rw [add_none] at hck
   refine ⟨b, off, rfl, ⟨Nat.zero_le _, cell_lt hck⟩, ?_⟩
   rw [hck]
   simp [List.getD, hk]
theorem open_line {n b o : Nat} {cs : List Value} {x : DataW H × List MemPlace} (hc : ∀ k (hk : k < cs.length), W.cell? ⟨b, o + k, none⟩ = some cs[k]) (h : DataW.trod enc Tryz.prog W base spare held n 57 cs = some x) :
  ∃ l : Ln, LineAt W.heap.size W b o l ∧ LnMx l := by
 obtain ⟨y0, y1, y2, y3, y4, m, hl, h0, h1, h2, h3, h4⟩ := trod_struct5 Tryz.underlying57 h
 rw [cellsLn] at hl
 obtain ⟨c0, c1, c2, c3, c4, rfl⟩ := list5 hl
 simp only [cellsI, cellsT, cellsTs, List.drop_zero, List.drop_succ_cons, List.take_succ_cons, List.take_zero] at h0 h1 h2 h3 h4
 obtain ⟨id, e0, _, wid⟩ := DataW.trod_int Tryz.underlying3 h0
 obtain ⟨tt, e1, _, hto⟩ := DataW.trod_string Tryz.underlying9 h1
 obtain ⟨name, e2, _, hname⟩ := DataW.trod_string Tryz.underlying9 h2
 obtain ⟨ao, cap, ss, e3, hcap, hlen, hsz, hss⟩ := open_args h3
 obtain ⟨undo, e4, _, hundo⟩ := DataW.trod_string Tryz.underlying9 h4
 simp only [List.cons.injEq, and_true] at e0 e1 e2 e4
 subst e0 e1 e2 e3 e4
 unfold maxLen at hto hname hundo
 have k0 := hc 0 (by simp)
 have k1 := hc 1 (by simp)
 have k2 := hc 2 (by simp)
 have k3 := hc 3 (by simp)
 have k4 := hc 4 (by simp)
 exact ⟨(id, ⟨tt, name, ss, undo⟩), ⟨ao, cap, hcap, k0, k1, k2, k3, k4, hss⟩, ⟨hlen, by show tt.size ≤ _; omega, by show name.size ≤ _; omega, by show undo.size ≤ _; omega, hsz⟩⟩
theorem open_lines {r : Reach} {b0 : Nat} {v : Value} {d : DataW H} {p : List MemPlace} (hv : Value.okWide Tryz.prog W r b0 22 v) (h : DataW.Trod enc Tryz.prog W base spare held 22 v d p) :
  ∃ ao cap ls, v = .slice ao ls.length cap ∧ ls.length ≤ cap ∧ ls.length ≤ 9223372036854775807 ∧ (∀ l ∈ ls, LnMx l) ∧ LinesAt W.heap.size W ao ls := by
 obtain ⟨va, vl, vc, rfl⟩ := okWide_slice Tryz.underlying22 hv
 obtain ⟨fuel, h⟩ := h
 rcases open_slice Tryz.underlying22 h with ⟨e, _⟩ | ⟨a, len, cap, m, n, D, Pl, e, _, hl, hm, hmm, _, hx⟩
 ·have e' : Value.slice va vl vc = .slice none 0 0 := (List.cons.inj e).1
  rw [e']
  exact ⟨none, 0, [], rfl, Nat.le_refl _, Nat.zero_le _, fun l hl => by simp at hl, LinesAt.nil⟩
 ·have e' : Value.slice va vl vc = .slice (some a) len cap := (List.cons.inj e).1
  rw [e']
  have hlm : len ≤ m := by rw [hmm]; split <;> omega
  have each : ∀ i, i < len → ∃ l : Ln, (∃ b off, some a = some (⟨b, off, none⟩ : Addr) ∧ b < W.heap.size ∧ LineAt W.heap.size W b (off + i * 5) l) ∧ LnMx l := by
   intro i hi
   obtain ⟨cs', h1, h2⟩ := hx i (by omega)
   rw [cellsLn] at h1
   obtain ⟨_, hlen, hcell⟩ := World.cells?_some h1
   obtain ⟨c0, c1, c2, c3, c4, rfl⟩ := list5 hlen
   obtain ⟨cs0, g1, _⟩ := hx 0 (by omega)
   rw [cellsLn] at g1
   obtain ⟨_, hlen0, hcell0⟩ := World.cells?_some g1
   obtain ⟨z0, z1, z2, z3, z4, rfl⟩ := list5 hlen0
   have q0 : W.cell? ((a.add (0 * 5)).add 0) = some z0 := hcell0 0 (by decide)
   obtain ⟨b, off, sp⟩ := a
   have hsp : sp = none := by
    have := World.cell?_spot q0
    simpa [Addr.add] using this
   subst hsp
   have hc : ∀ k (hk : k < [c0, c1, c2, c3, c4].length), W.cell? ⟨b, off + i * 5 + k, none⟩ = some [c0, c1, c2, c3, c4][k] := by
    intro k hk
    have := hcell k (by simpa using hk)
    rw [add_none, add_none] at this
    rw [this]
    simp
   obtain ⟨l, hl1, hl2⟩ := open_line hc h2
   exact ⟨l, ⟨b, off, rfl, cell_lt (hc 0 (by simp)), hl1⟩, hl2⟩
  haveI : Inhabited Ln := ⟨(0, ⟨eS, eS, [], eS⟩)⟩
  obtain ⟨f, hf⟩ := choose_lt each
  have e1 : ((List.range len).map f).length = len := by simp
  unfold maxLen at hm
  refine ⟨some a, cap, (List.range len).map f, by rw [e1], by rw [e1]; exact hl, by rw [e1]; omega, ?_, ?_⟩
  ·intro l hl
   obtain ⟨i, hi, rfl⟩ := List.mem_map.1 hl
   exact (hf i (List.mem_range.1 hi)).2
  ·intro k hk
   rw [e1] at hk
   obtain ⟨b, off, e2, hb, hl⟩ := (hf k hk).1
   refine ⟨b, off, e2, hb, ?_⟩
   rw [List.getElem_map, List.getElem_range]
   exact hl
end
end
section
open Go.RowKit
theorem var_same {P : Program} {W : World} {n m : String} {g : Nat} (hn : P.globalNamed n = some g) (hm : P.globalNamed m = some g) : W.var? P n = W.var? P m := by
 unfold World.var?; rw [hn, hm]
theorem gPow : Tryz.prog.globalNamed "internal/strconv.uint64pow10" = some 1 := by kernel_rfl
theorem gPowT : (Tryz.prog.globals[1]?).map (·.type) = some 218 := by kernel_rfl
theorem gErr : Tryz.prog.globalNamed "errors.errorType" = some 0 := by kernel_rfl
theorem gFar : Tryz.prog.globalNamed "strconv.ErrRange" = some 6 := by kernel_rfl
theorem gFarT : (Tryz.prog.globals[6]?).map (·.type) = some 76 := by kernel_rfl
theorem gBad : Tryz.prog.globalNamed "strconv.ErrSyntax" = some 5 := by kernel_rfl
theorem gBadT : (Tryz.prog.globals[5]?).map (·.type) = some 76 := by kernel_rfl
theorem cells64 : Tryz.prog.cellsOf 202 = 1 := by kernel_rfl
theorem cellsPow : Tryz.prog.cellsOf 218 = 20 := by kernel_rfl
theorem cellsEs : Tryz.prog.cellsOf 252 = 1 := by kernel_rfl
theorem cellsStr : Tryz.prog.cellsOf 9 = 1 := by kernel_rfl
theorem starEs : "*" ++ "errors.errorString" = "*errors.errorString" := by decide
theorem rowEs (u : TypeId) (h : Tryz.prog.typeName? 3 u = some "*errors.errorString") : u = 250 :=
 typeName_ptr_named (nm := "errors.errorString") (by rw [starEs]; kernel_rfl) (by kernel_rfl) (by decide) u (by rw [starEs]; exact h)
theorem rtT : (Tryz.prog.cutTypes.find? (·.1 == "internal/reflectlite.rtype")).map (·.2) = some 185 := by kernel_rfl
theorem oneRow : ((List.range 279).filter fun t => Tryz.prog.rowNamed t [101, 114, 114, 111, 114]) = [76] := by kernel_rfl
theorem sizeTy : Tryz.prog.types.size = 279 := by kernel_rfl
theorem env_of_laid {W : World} (h : laidMetH Tryz.prog Rows.fnExactFlowMakeRow.laid W) : Env W := by
 have h' : laidMet Tryz.prog [("math/bits.deBruijn32tab", Rows.laid_math_bits_deBruijn32tab), ("math/bits.deBruijn64tab", Rows.laid_math_bits_deBruijn64tab), ("internal/strconv.uint64pow10", Rows.laid_internal_strconv_uint64pow10), ("strconv.ErrRange", Rows.laid_strconv_ErrRange), ("strconv.ErrSyntax", Rows.laid_strconv_ErrSyntax)] W ∧ handlesMet Tryz.prog [("errors.errorType", Rows.laid_errors_errorType)] W := h
 obtain ⟨hl, hh⟩ := h'
 have hp := hl.tail.tail
 have hr := hp.tail
 have hb := hr.tail
 have tab : Lib.TabIs Tryz.prog W "internal/strconv.uint64pow10" .u64 Lib.pow10Tab := Lib.tabIs_of_head gPow gPowT Tryz.underlying218 Tryz.underlying202 cells64 cellsPow hp
 obtain ⟨a1, _, hv1, _⟩ := laid_sentinel hr gFar gFarT Tryz.underlying76 rowEs Tryz.underlying250 Tryz.underlying252 rfl rfl Tryz.underlying9 cellsEs cellsStr
 obtain ⟨a2, _, hv2, _⟩ := laid_sentinel hb gBad gBadT Tryz.underlying76 rowEs Tryz.underlying250 Tryz.underlying252 rfl rfl Tryz.underlying9 cellsEs cellsStr
 obtain ⟨name, u, ty, e1, e2, e3, e4, e5⟩ := hh _ (List.mem_singleton.2 rfl)
 have en : name = [101, 114, 114, 111, 114] := (Option.some.inj e1).symm
 subst en
 obtain rfl := Option.some.inj (rtT.symm.trans e2)
 have hm : ty ∈ (List.range 279).filter fun t => Tryz.prog.rowNamed t [101, 114, 114, 111, 114] := List.mem_filter.2 ⟨List.mem_range.2 (by rw [← sizeTy]; exact e3), e4⟩
 rw [oneRow] at hm
 obtain rfl := List.mem_singleton.1 hm
 have hty : typeHandle Tryz.prog 76 = .pointer (some ⟨7, 76, none⟩) := by kernel_rfl
 rw [hty] at e5
 refine ⟨fun n hn => ?_, ⟨_, _, fun n hn => (var_same hn gBad).trans hv2⟩, ⟨_, _, fun n hn => (var_same hn gFar).trans hv1⟩, fun n hn => (var_same hn gErr).trans e5⟩
 unfold Lib.TabIs at tab ⊢
 exact (var_same hn gPow).trans tab
end
end Go.Proofs.YtlbjjbolbopfmaaGreatDoor
