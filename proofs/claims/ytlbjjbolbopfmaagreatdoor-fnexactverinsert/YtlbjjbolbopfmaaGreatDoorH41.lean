import Derived.Test.YtlbjjbolbopfmaaGreatDoorH39
import Derived.Deep.RegionHeld3
import Derived.Test.YtlbjjbolbopfmaaGreatDoorH40
import Derived.Test.YtlbjjbolbopfmaaGreatDoorH28
import Derived.Test.YtlbjjbolbopfmaaGreatDoorH22
import Derived.Test.YtlbjjbolbopfmaaGreatDoorH35
import Derived.Test.YtlbjjbolbopfmaaGreatDoorH21
namespace Go.Proofs.YtlbjjbolbopfmaaGreatDoor
set_option maxHeartbeats 8000000
set_option maxRecDepth 1000000
set_option linter.unusedVariables false
section
open Go.RowKit
set_option linter.unusedSimpArgs false
theorem swapS_d (b off t : Nat) (bo : Option Addr) (cb : Nat) (ls ms : List Ln) (name : ByteArray) (w : World) (hcap : ls.length ≤ t) (hf : 1 ≤ t) (hft : t ≤ t) (ht : t ≤ ls.length) (hl : ls.length ≤ 1048576) (hl2 : ms.length ≤ 1048576)
  (hnb : bo = none → cb = 0) (hname : name.size ≤ 1048576) (hz : ∀ l ∈ ls, LnSz l) (hzm : ∀ l ∈ ms, LnSz l) (hi : LinesAt w.heap.size w (some ⟨b, off, none⟩) ls) (hj : LinesAt w.heap.size w bo ms) (h0 : CheckC 0 ls) :
  Calls Tryz.prog 20 #[.slice (some ⟨b, off, none⟩) ls.length t, .int .i64 t, .int .i64 t, .string name, .slice bo ms.length cb] w (SwapE w ls t t name ms) := by
 have HI : Hid (LinesAt w.heap.size w (some ⟨b, off, none⟩) ls) := hi
 have HJ : Hid (LinesAt w.heap.size w bo ms) := hj
 have HZ : Hid (∀ l ∈ ls, LnSz l) := hz
 have HZ2 : Hid (∀ l ∈ ms, LnSz l) := hzm
 have H0 : Hid (CheckC 0 ls) := h0
 have HNB : Hid (bo = none → cb = 0) := hnb
 have hls60 := checkC_len h0
 clear hi hj hz hzm h0 hnb
 have hin1 : (decide ((1 : Int) ≤ (t : Nat)) && decide (((t : Nat) : Int) ≤ ls.length)) = true := by simp; omega
 have hin2 : (decide (((t : Nat) : Int) ≤ (t : Nat)) && decide (((t : Nat) : Int) ≤ ls.length)) = true := by simp; omega
 have hfld : ∀ (a b : Int) (w : World), (Instr.field 43 (.agg #[.int .i64 a, .int .i64 b]) 1).run Tryz.prog w = .ok (.int .i64 b) w := Tryz.fieldCode2
 have HBt : Hid (LinesAt w.heap.size w (some ⟨b, off, none⟩) (betw t t ls)) := (by unfold betw; rw [Nat.sub_self, List.take_zero]; exact LinesAt.nil)
 have HXT : Hid (LinesAt w.heap.size w (some ⟨b, off, none⟩) (ls.drop t)) := (by rw [List.drop_eq_nil_of_le (by omega)]; exact LinesAt.nil)
 have HX : Hid (∀ W, Below w.heap.size w W → Calls Tryz.prog 50 #[.slice (some ⟨b, off, none⟩) 0 0] W fun e w' => e = .returned (.bool (evenB (betw t t ls))) ∧ Below W.heap.size W w') := fun W hb => by
  have h := l23Even_any (some ⟨b, off, none⟩) 0 (betw t t ls) W (by rw [betw_len t t ls hft ht]; omega) (HBt.out.later hb)
  rw [betw_len t t ls hft ht, Nat.sub_self] at h
  exact h
 have HLT : Hid (∀ W, Below w.heap.size w W → Calls Tryz.prog 49 #[.slice (some ⟨b, off, none⟩) t t] W fun e w' => ∃ (v : Value) (ps : List (Ln × Value)), e = .returned v ∧ Below W.heap.size W w' ∧ ps.map (·.1) = ls.take t ∧ OwnLn W.heap.size w' v ps) := fun W hb => by
  have h := l23Lines_any (some ⟨b, off, none⟩) t (ls.take t) W (by rw [List.length_take]; omega) (fun l hl => HZ.out l (List.mem_of_mem_take hl)) ((HI.out.take t).later hb)
  rw [show (ls.take t).length = t by rw [List.length_take]; omega] at h
  exact h
 have hbl : (betw t t ls).length ≤ 60 := by rw [betw_len t t ls hft ht]; omega
 have hdl : (ls.drop t).length ≤ 60 := by rw [List.length_drop]; omega
 have i0 : (0 : Int) ≤ (t : Nat) := by omega
 have i1 : ((t : Nat) : Int) ≤ (t : Nat) := by omega
 have i2 : ((t : Nat) : Int) ≤ (t : Nat) := by omega
 have i3 : ((t : Nat) : Int) ≤ (ls.length : Int) := by omega
 have i4 : (ls.length : Int) ≤ (t : Nat) := by omega
 have i5 : (0 : Int) ≤ (t : Nat) := by omega
 go_enter Tryz.func20, Tryz.ntmps20
 go_wp2_with fail
 refine (flowCheckS_any (some ⟨b, off, none⟩) t ls w hcap hl HI.out HZ.out).mono ?_
 rintro e w1 ⟨fa, fb, rfl, hbl, hck⟩
 have hfb : fb = 0 := (checkC_same H0.out hck).1 rfl
 subst hfb
 have HB1 : Hid (Below w.heap.size w w1) := hbl
 clear hbl hck
 have HOk : Hid (CheckC 0 (swapLs t t name ls ms) → evenB (betw t t ls) = true → evenB ms = true → patchB (ls ++ ms) name = false → SwapOk ls t t name ms) := fun h h1 h2 h3 => by
  rw [patchB_append, Bool.or_eq_false_iff] at h3
  exact ⟨H0.out, by omega, by omega, by omega, by simpa using h1, h2, h3.1, h3.2, by simpa using h⟩
 have HNo : Hid (SwapOk ls t t name ms → CheckC 0 (swapLs t t name ls ms) ∧ evenB (betw t t ls) = true ∧ evenB ms = true ∧ patchB (ls ++ ms) name = false) := fun h => by
  obtain ⟨_, _, _, _, h1, h2, h3, h4, h5⟩ := h
  exact ⟨by simpa using h5, by simpa using h1, h2, by rw [patchB_append, h3, h4]; rfl⟩
 cases hp : patchB (ls ++ ms) name with
 | true =>
  have HN : Hid (¬ SwapOk ls t t name ms) := fun h => by have := (HNo.out h).2.2.2; rw [hp] at this; cases this
  go_wp2_with (first
  | (go_at_call 47; refine (l1In_any _ _ _ _).mono ?_; rintro e w1 ⟨rfl, rfl⟩; first | rw [hin1] | rw [hin2])
  | (go_at_call 49; refine (l23Lines_any (some ⟨b, off, none⟩) t ls _ hl HZ.out (HI.out.later HB1.out)).mono ?_; rintro e w2 ⟨v2, ps2, rfl, hb2, hm2, ho2⟩; have HB2 : Hid (Below w.heap.size w w2) := HB1.out.trans (hb2.mono HB1.out.size); have HM2 : Hid (ps2.map (·.1) = ls) := hm2; have HR2 : Hid (RowL w.heap.size w2 v2 ps2) := own_rowL (ho2.mono HB1.out.size); have hq2 : ps2.length ≤ 60 := len_map hm2 hls60; clear hb2 hm2 ho2)
  | (at_builtin; (refine app_lines_g rfl _ _ rfl w.heap.size w.heap.size v2 _ rfl HR2.out bo cb ms rfl HNB.out ((HJ.out).below HB2.out) (Nat.le_refl _) (by first | omega | (simp; omega)) HB2.out.size ?_; intro v3 w3 qs3 hm3 hr3 hg3 ho3; have HB3 : Hid (Below w.heap.size w w3) := app_below HB2.out HR2.out.row hg3 HB2.out.size; have HR3 : Hid (RowL w.heap.size w3 v3 (ps2 ++ qs3)) := hr3; have HM3 : Hid (qs3.map (·.1) = ms) := hm3; have hq3 : qs3.length ≤ 1048576 := len_map hm3 (by first | omega | (rw [betw_len t t ls hft ht]; omega) | (rw [List.length_drop]; omega)); clear hm3 hr3 hg3 ho3))
  | (go_at_call 48; obtain ⟨ao3, c3, hv3, hc3, hl3⟩ := HR3.out.lines; rw [List.map_append, HM2.out, HM3.out] at hl3; have hln : (ps2 ++ qs3).length = (ls ++ ms).length := (by rw [← HM2.out, ← HM3.out]; simp); rw [hln] at hv3; subst hv3; refine (l23New_any ao3 c3 (ls ++ ms) name _ (by simp; omega) hl3).mono ?_; rintro e w3 ⟨rfl, rfl⟩; rw [hp]; clear hc3 hl3 hln))
  go_ret2
  exact swap_no2 HB3.out HN.out
 | false =>
 have HPF : Hid (patchB (ls ++ ms) name = false) := hp
 go_wp2_with (first
  | (go_at_call 47; refine (l1In_any _ _ _ _).mono ?_; rintro e w1 ⟨rfl, rfl⟩; first | rw [hin1] | rw [hin2])
  | (go_at_call 49; refine (l23Lines_any (some ⟨b, off, none⟩) t ls _ hl HZ.out (HI.out.later HB1.out)).mono ?_; rintro e w2 ⟨v2, ps2, rfl, hb2, hm2, ho2⟩; have HB2 : Hid (Below w.heap.size w w2) := HB1.out.trans (hb2.mono HB1.out.size); have HM2 : Hid (ps2.map (·.1) = ls) := hm2; have HR2 : Hid (RowL w.heap.size w2 v2 ps2) := own_rowL (ho2.mono HB1.out.size); have hq2 : ps2.length ≤ 60 := len_map hm2 hls60; clear hb2 hm2 ho2)
  | (at_builtin; (refine app_lines_g rfl _ _ rfl w.heap.size w.heap.size v2 _ rfl HR2.out bo cb ms rfl HNB.out ((HJ.out).below HB2.out) (Nat.le_refl _) (by first | omega | (simp; omega)) HB2.out.size ?_; intro v3 w3 qs3 hm3 hr3 hg3 ho3; have HB3 : Hid (Below w.heap.size w w3) := app_below HB2.out HR2.out.row hg3 HB2.out.size; have HR3 : Hid (RowL w.heap.size w3 v3 (ps2 ++ qs3)) := hr3; have HM3 : Hid (qs3.map (·.1) = ms) := hm3; have hq3 : qs3.length ≤ 1048576 := len_map hm3 (by first | omega | (rw [betw_len t t ls hft ht]; omega) | (rw [List.length_drop]; omega)); clear hm3 hr3 hg3 ho3))
  | (go_at_call 48; obtain ⟨ao3, c3, hv3, hc3, hl3⟩ := HR3.out.lines; rw [List.map_append, HM2.out, HM3.out] at hl3; have hln : (ps2 ++ qs3).length = (ls ++ ms).length := (by rw [← HM2.out, ← HM3.out]; simp); rw [hln] at hv3; subst hv3; refine (l23New_any ao3 c3 (ls ++ ms) name _ (by simp; omega) hl3).mono ?_; rintro e w3 ⟨rfl, rfl⟩; rw [hp]; clear hc3 hl3 hln))
 clear hp HM2 HR2 HB2 HM3 HR3 hq2 hq3
 refine Calls.mono (HX.out w3 HB3.out) ?_
 rintro e w4 ⟨rfl, hb4⟩
 have HB4 : Hid (Below w.heap.size w w4) := HB3.out.trans (hb4.mono HB3.out.size)
 clear hb4
 cases e1 : evenB (betw t t ls) with
 | false =>
  have HN : Hid (¬ SwapOk ls t t name ms) := fun h => by have := (HNo.out h).2.1; rw [e1] at this; cases this
  go_wp2
  go_ret2
  exact swap_no2 HB4.out HN.out
 | true =>
 go_wp2_with fail
 refine (l23Even_any bo cb ms w4 (by omega) (HJ.out.later HB4.out)).mono ?_
 rintro e w5 ⟨rfl, hb5⟩
 have HB5 : Hid (Below w.heap.size w w5) := HB4.out.trans (hb5.mono HB4.out.size)
 clear hb5
 cases e2 : evenB ms with
 | false =>
  have HN : Hid (¬ SwapOk ls t t name ms) := fun h => by have := (HNo.out h).2.2.1; rw [e2] at this; cases this
  go_wp2
  go_ret2
  exact swap_no2 HB5.out HN.out
 | true =>
 have HE1 : Hid (evenB (betw t t ls) = true) := e1
 have HE2 : Hid (evenB ms = true) := e2
 clear e1 e2 HX
 go_wp2_with fail
 refine Calls.mono (HLT.out w5 HB5.out) ?_
 rintro e w6 ⟨v6, ps6, rfl, hb6, hm6, ho6⟩
 have HB6 : Hid (Below w.heap.size w w6) := HB5.out.trans (hb6.mono HB5.out.size)
 have HM6 : Hid (ps6.map (·.1) = ls.take t) := hm6
 have HR6 : Hid (RowL w.heap.size w6 v6 ps6) := own_rowL (ho6.mono HB5.out.size)
 have hq6 : ps6.length ≤ 60 := len_map hm6 (by rw [List.length_take]; omega)
 clear hb6 hm6 ho6 HLT
 go_wp2_with (at_builtin; first
  | (refine app_lit rfl _ _ rfl w.heap.size v6 _ rfl (HR6.out.below ((Below.refl w6.heap.size w6).alloc (Nat.le_refl _) _)) w6.heap.size 14 name rfl (lit_cells w6 14 name) (by simp; omega) (by have := HB6.out.size; simp; omega) ?_; intro v7 w7 hr7 hg7 ho7; have HB7 : Hid (Below w.heap.size w w7) := app_below (HB6.out.alloc HB6.out.size _) (own_below HR6.out.row ((Below.refl w6.heap.size w6).alloc (Nat.le_refl _) _)) hg7 (by have := HB6.out.size; simp; omega); have HR7 : Hid (RowL w.heap.size w7 v7 (ps6 ++ [(lnK 14 name, Value.slice none 0 0)])) := hr7; clear hr7 hg7 ho7)
  | (refine app_lines rfl _ _ rfl w.heap.size w.heap.size v7 _ rfl HR7.out bo cb ms rfl HNB.out ((HJ.out).below HB7.out) (Nat.le_refl _) (by first | omega | (simp; omega)) HB7.out.size ?_; intro v8 w8 qs8 hm8 hr8 hg8 ho8; have HB8 : Hid (Below w.heap.size w w8) := app_below HB7.out HR7.out.row hg8 HB7.out.size; have HR8 : Hid (RowL w.heap.size w8 v8 ((ps6 ++ [(lnK 14 name, Value.slice none 0 0)]) ++ qs8)) := hr8; have HM8 : Hid (qs8.map (·.1) = ms) := hm8; have hq8 : qs8.length ≤ 1048576 := len_map hm8 (by first | omega | (rw [betw_len t t ls hft ht]; omega) | (rw [List.length_drop]; omega)); clear hm8 hr8 hg8 ho8))
 have HMAP : Hid (∀ (qs10 qs12 : List (Ln × Value)), qs10.map (·.1) = betw t t ls → qs12.map (·.1) = ls.drop t → ((((ps6 ++ [(lnK 14 name, Value.slice none 0 0)]) ++ qs8) ++ [(lnK 11 ⟨#[]⟩, Value.slice none 0 0)]) ++ qs12).map (·.1) = swapLs t t name ls ms) := fun qs10 qs12 h10 h12 => by
  simp only [List.map_append, List.map_cons, List.map_nil, HM6.out, HM8.out, h10, h12, swapLs, patchLs, betw_len t t ls hft ht]
  rw [if_neg (by omega)]
  simp
 go_wp2_with fail
 have HM10 : Hid (([] : List (Ln × Value)).map (·.1) = ([] : List Ln)) := rfl
 go_region_held3 (fun _ => True) (trivial) (first
  | (refine step_app_lit rfl _ _ rfl w.heap.size v8 _ rfl (HR8.out.below ((Below.refl w8.heap.size w8).alloc (Nat.le_refl _) _).drew) w8.heap.size 11 ⟨#[]⟩ rfl (lit_cells w8 11 ⟨#[]⟩) (by simp; omega) (by have := HB8.out.size; simp; omega) ?_; intro v11 w11 hr11 hg11 ho11; have HB11 : Hid (Below w.heap.size w w11) := app_below (HB8.out.alloc HB8.out.size _).drew (own_below HR8.out.row ((Below.refl w8.heap.size w8).alloc (Nat.le_refl _) _).drew) hg11 (by have := HB8.out.size; simp; omega); have HR11 : Hid (RowL w.heap.size w11 v11 (((ps6 ++ [(lnK 14 name, Value.slice none 0 0)]) ++ qs8) ++ [(lnK 11 ⟨#[]⟩, Value.slice none 0 0)])) := hr11; clear hr11 hg11 ho11)
  | (refine step_app_lines2 rfl _ _ rfl w.heap.size w.heap.size v11 _ rfl HR11.out (some ⟨b, off, none⟩) 0 (ls.drop t) 0 (by rw [List.length_drop]; omega) rfl (fun h => by cases h) ((HXT.out).below HB11.out) (Nat.le_refl _) (by first | omega | (simp; omega)) HB11.out.size ?_; intro v12 w12 qs12 hm12 hr12 hg12 ho12; have HB12 : Hid (Below w.heap.size w w12) := app_below HB11.out HR11.out.row hg12 HB11.out.size; have HR12 : Hid (RowL w.heap.size w12 v12 ((((ps6 ++ [(lnK 14 name, Value.slice none 0 0)]) ++ qs8) ++ [(lnK 11 ⟨#[]⟩, Value.slice none 0 0)]) ++ qs12)) := hr12; have HM12 : Hid (qs12.map (·.1) = (ls.drop t)) := hm12; have hq12 : qs12.length ≤ 1048576 := len_map hm12 (by first | omega | (rw [betw_len t t ls hft ht]; omega) | (rw [List.length_drop]; omega)); clear hm12 hr12 hg12 ho12)
  | (go_at_call 51; obtain ⟨ao9, c9, hv9, hc9, hl9⟩ := HR12.out.lines; have hm9 := HMAP.out [] qs12 (by simp [betw]) HM12.out; rw [hm9] at hl9; have hln : ((((ps6 ++ [(lnK 14 name, Value.slice none 0 0)]) ++ qs8) ++ [(lnK 11 ⟨#[]⟩, Value.slice none 0 0)]) ++ qs12).length = (swapLs t t name ls ms).length := (by rw [← hm9, List.length_map]); rw [hln] at hv9 hc9; subst hv9; refine (l23Fits_any ao9 c9 (swapLs t t name ls ms) _ hc9 (by have := swapLs_len t t name ls ms; omega) hl9 (swapLs_mem HZ.out HZ2.out (fun k => lnK_sz hname) (fun k => lnK_sz (Nat.zero_le _)))).mono ?_; rintro e w13 ⟨v13, ok13, ps13, rfl, hb13, ho13, hres⟩; have HB13 : Hid (Below w.heap.size w w13) := HB12.out.trans (hb13.mono HB12.out.size); have HO13 : Hid (OwnLn w.heap.size w13 v13 ps13) := ho13.mono HB12.out.size; have HRes := (show Hid _ from hres); clear hb13 ho13 hres hc9 hl9 hln hm9))
 go_wp2
 go_ret2
 refine ⟨v13, ok13, ps13, rfl, HB13.out, HO13.out, ?_⟩
 rcases HRes.out with ⟨h1, h2, h3⟩ | ⟨h1, h2, h3⟩
 ·exact .inl ⟨h1, fun h => h2 (HNo.out h).1, h3⟩
 ·exact .inr ⟨h1, HOk.out h2 HE1.out HE2.out HPF.out, by simpa using h3⟩
end
section
open Go.RowKit
theorem verSwapS_any (b off cap : Nat) (bo : Option Addr) (cb : Nat) (ls ms : List Ln) (f t : Int) (name : ByteArray) (w : World) (hcap : ls.length ≤ cap) (hl : ls.length ≤ 1048576) (hl2 : ms.length ≤ 1048576)
  (hnb : bo = none → cb = 0) (hname : name.size ≤ 1048576) (hz : ∀ l ∈ ls, LnSz l) (hzm : ∀ l ∈ ms, LnSz l) (hi : LinesAt w.heap.size w (some ⟨b, off, none⟩) ls) (hj : LinesAt w.heap.size w bo ms) :
  Calls Tryz.prog 20 #[.slice (some ⟨b, off, none⟩) ls.length cap, .int .i64 f, .int .i64 t, .string name, .slice bo ms.length cb] w (SwapE w ls f t name ms) := by
 by_cases hg : CheckC 0 ls ∧ 1 ≤ f ∧ f ≤ t ∧ t ≤ ls.length
 ·obtain ⟨h0, h1, h2, h3⟩ := hg
  obtain ⟨fn, rfl⟩ : ∃ n : Nat, f = n := ⟨f.toNat, by omega⟩
  obtain ⟨tn, rfl⟩ : ∃ n : Nat, t = n := ⟨t.toNat, by omega⟩
  by_cases hc : tn < cap
  ·by_cases hf : fn < tn
   ·exact swapS_a b off cap fn tn bo cb ls ms name w hcap (by omega) (by omega) (by omega) hl hl2 hc hf hnb hname hz hzm hi hj h0
   ·have e : fn = tn := by omega
    subst e
    exact swapS_b b off cap fn bo cb ls ms name w hcap (by omega) (by omega) (by omega) hl hl2 hc hnb hname hz hzm hi hj h0
  ·have e : cap = tn := by omega
   subst e
   by_cases hf : fn < cap
   ·exact swapS_c b off fn cap bo cb ls ms name w hcap (by omega) (by omega) (by omega) hl hl2 hf hnb hname hz hzm hi hj h0
   ·have e : fn = cap := by omega
    subst e
    exact swapS_d b off fn bo cb ls ms name w hcap (by omega) (by omega) (by omega) hl hl2 hnb hname hz hzm hi hj h0
 ·have HI : Hid (LinesAt w.heap.size w (some ⟨b, off, none⟩) ls) := hi
  have HZ : Hid (∀ l ∈ ls, LnSz l) := hz
  have HG : Hid (¬ (CheckC 0 ls ∧ 1 ≤ f ∧ f ≤ t ∧ t ≤ ls.length)) := hg
  have HN : Hid (¬ SwapOk ls f t name ms) := fun h => hg ⟨h.1, h.2.1, h.2.2.1, h.2.2.2.1⟩
  have hfld : ∀ (a b : Int) (w : World), (Instr.field 43 (.agg #[.int .i64 a, .int .i64 b]) 1).run Tryz.prog w = .ok (.int .i64 b) w := Tryz.fieldCode2
  clear hi hz hg hj hzm
  go_enter Tryz.func20, Tryz.ntmps20
  go_wp2_with fail
  refine (flowCheckS_any (some ⟨b, off, none⟩) cap ls w hcap hl HI.out HZ.out).mono ?_
  rintro e w1 ⟨fa, fb, rfl, hbl, hck⟩
  have HB1 : Hid (Below w.heap.size w w1) := hbl
  clear hbl
  by_cases hz0 : fb = 0
  ·subst hz0
   have HR : Hid (¬ (1 ≤ f ∧ f ≤ t ∧ t ≤ ls.length)) := fun h => HG.out ⟨hck, h⟩
   clear hck
   cases hin1 : (decide ((1 : Int) ≤ f) && decide (f ≤ (ls.length : Int))) with
   | false =>
    go_wp2_with (go_at_call 47; refine (l1In_any _ _ _ _).mono ?_; rintro e w1 ⟨rfl, rfl⟩; rw [hin1])
    go_ret2
    exact swap_no2 HB1.out HN.out
   | true =>
    cases hin2 : (decide (f ≤ t) && decide (t ≤ (ls.length : Int))) with
    | false =>
     go_wp2_with (go_at_call 47; refine (l1In_any _ _ _ _).mono ?_; rintro e w1 ⟨rfl, rfl⟩; first | rw [hin1] | rw [hin2])
     go_ret2
     exact swap_no2 HB1.out HN.out
    | true =>
     exfalso
     simp only [Bool.and_eq_true, decide_eq_true_eq] at hin1 hin2
     exact HR.out ⟨hin1.1, hin2.1, hin2.2⟩
  ·have hbz : (fb != 0) = true := by simpa using hz0
   clear hck
   go_wp2
   go_ret2
   exact swap_no2 HB1.out HN.out
end
section
open Go.RowKit
theorem heldFlowLineS_any (ao : Option Addr) (cap : Nat) (ls : List Ln) (k : Nat) (w : World) (hk : endL markLnN k ls ≤ 4000000000) (hl : ls.length ≤ 1048576) (hi : LinesAt w.heap.size w ao (markL markLn markLnN k ls)) :
  Calls Tryz.prog 22 #[.slice ao ls.length cap, .int .i64 k] w fun e w' => e = .returned (.int .i64 (endL markLnN k ls : Nat)) ∧ Below w.heap.size w w' := by
 have HI : Hid (LinesAt w.heap.size w ao (markL markLn markLnN k ls)) := hi
 have HK : Hid (endL markLnN k ls ≤ 4000000000) := hk
 clear hi hk
 go_enter Tryz.func22, Tryz.ntmps22
 go_wp2
 go_loopw [1, 5] (fun y i wr => ∃ j : Nat, j ≤ ls.length ∧ i = .int .i64 j ∧ y = .int .i64 (endL markLnN k (ls.take j) : Nat) ∧ Hid (Below w.heap.size w wr)) (fun _ i _ => ls.length - (intOf i).toNat)
 case atStart => exact ⟨0, Nat.zero_le _, rfl, rfl, Below.refl _ _⟩
 case round =>
  obtain ⟨j, hj, rfl, rfl, HB⟩ := hrel
  by_cases hlt : j < ls.length
  ·have hjm : j < (markL markLn markLnN k ls).length := by rw [markL_len]; exact hlt
   obtain ⟨b, off, rfl, hB, hs⟩ := HI.out j hjm
   rw [markL_at markLn markLnN k ls j hjm hlt] at hs
   have HSucc : Hid (endL markLnN k (ls.take (j + 1)) = endL markLnN k (ls.take j) + markLnN ls[j]) := endL_succ markLnN k ls j hlt
   have hkb := endL_le markLnN (j + 1) HK.out
   rw [HSucc.out] at hkb
   obtain ⟨kk, hkk⟩ : ∃ kk, kk = endL markLnN k (ls.take j) := ⟨_, rfl⟩
   rw [← hkk] at hs HSucc hkb ⊢
   obtain ⟨na, hna⟩ : ∃ na, na = ls[j].2.args.length := ⟨_, rfl⟩
   have HN : Hid (markLnN ls[j] = na + 4) := by show _ = _; rw [markLnN, hna]
   rw [HN.out] at hkb
   simp only [markLn, ← hna] at hs
   obtain ⟨aoA, capA, hcA, q0, q1, q2, q3, q4, hA⟩ := hs
   simp only [marksS_len] at q0 q1 q2 q3 q4 hcA
   have c0 := (HB.out.cell (p := ⟨b, off + j * 5, none⟩) hB).trans q0
   have c1 := (HB.out.cell (p := ⟨b, off + j * 5 + 1, none⟩) hB).trans q1
   have HC : Hid (∀ w', Below w.heap.size w w' → w'.cell? ⟨b, off + j * 5 + 1, none⟩ = some (.string (markT (kk + 1))) ∧ w'.cell? ⟨b, off + j * 5 + 2, none⟩ = some (.string (markT (kk + 2))) ∧ w'.cell? ⟨b, off + j * 5 + 3, none⟩ = some (.slice aoA na capA) ∧ w'.cell? ⟨b, off + j * 5 + 4, none⟩ = some (.string (markT (kk + 3 + na)))) := fun w' h =>
    ⟨(h.cell (p := ⟨b, _, none⟩) hB).trans q1, (h.cell (p := ⟨b, _, none⟩) hB).trans q2, (h.cell (p := ⟨b, _, none⟩) hB).trans q3, (h.cell (p := ⟨b, _, none⟩) hB).trans q4⟩
   have HAr : Hid (StrsAt 0 w.heap.size w aoA (marksS (kk + 3) na)) := hA
   have hws := HB.out.size
   clear q0 q1 q2 q3 q4 hA hkk hna
   go_wp2_with fail
   go_region_with (go_at_call 37; refine (markText_any (kk + 1) _ (by omega)).mono ?_; rintro e w2 ⟨rfl, hb2⟩; have HB2 : Hid (Below w.heap.size w w2) := HB.out.drew.trans (hb2.mono hws); obtain ⟨d21, d22, d23, d24⟩ := HC.out w2 HB2.out; have hw2 : w.heap.size ≤ w2.heap.size := HB2.out.size; clear hb2)
   all_goals
    go_wp2_with fail
    go_region_with (go_at_call 37; refine (markText_any (kk + 2) _ (by omega)).mono ?_; rintro e w3 ⟨rfl, hb3⟩; have HB3 : Hid (Below w.heap.size w w3) := HB2.out.drew.trans (hb3.mono hw2); obtain ⟨d31, d32, d33, d34⟩ := HC.out w3 HB3.out; have hw3 : w.heap.size ≤ w3.heap.size := HB3.out.size; clear hb3)
    all_goals
     go_wp2_with fail
     refine (heldStringS_any aoA capA na (kk + 3) _ (by omega) (HAr.out.later HB3.out)).mono ?_
     rintro e w4 ⟨rfl, hb4⟩
     have HB4 : Hid (Below w.heap.size w w4) := HB3.out.trans (hb4.mono hw3)
     obtain ⟨d41, d42, d43, d44⟩ := HC.out w4 HB4.out
     have hw4 : w.heap.size ≤ w4.heap.size := HB4.out.size
     clear hb4
     go_wp2_with fail
     go_region_with (go_at_call 37; refine (markText_any (kk + 3 + na) _ (by omega)).mono ?_; rintro e w5 ⟨rfl, hb5⟩; have HB5 : Hid (Below w.heap.size w w5) := HB4.out.drew.trans (hb5.mono hw4); obtain ⟨d51, d52, d53, d54⟩ := HC.out w5 HB5.out; have hw5 : w.heap.size ≤ w5.heap.size := HB5.out.size; clear hb5)
     all_goals
      go_wp2
      go_roundw
      case rel => exact ⟨j + 1, by omega, by go_num, by rw [HSucc.out, HN.out]; go_num, HB5⟩
      case measure => simp [intOf]; omega
  ·have e : j = ls.length := by omega
   subst e
   rw [List.take_length]
   go_wp2
   go_ret
   exact ⟨rfl, HB.out⟩
end
section
open Go.RowKit
def SwL (ls : List Ln) (f t : Int) (name : ByteArray) (ms : List Ln) (ok : Bool) (qs : List Ln) : Prop :=
 (ok = false ∧ ¬ SwapOk ls f t name ms ∧ qs = []) ∨ (ok = true ∧ SwapOk ls f t name ms ∧ qs = swapLs f.toNat t.toNat name ls ms)
theorem swL_same {ls : List Ln} {f t : Int} {name : ByteArray} {ms : List Ln} {ok ok' : Bool} {qs qs' : List Ln} (h : SwL ls f t name ms ok qs) (h' : SwL ls f t name ms ok' qs') : ok = ok' ∧ qs = qs' := by
 rcases h with ⟨rfl, h1, rfl⟩ | ⟨rfl, h1, rfl⟩
 ·rcases h' with ⟨rfl, h2, rfl⟩ | ⟨rfl, h2, rfl⟩
  ·exact ⟨rfl, rfl⟩
  ·exact absurd h2 h1
 ·rcases h' with ⟨rfl, h2, rfl⟩ | ⟨rfl, h2, rfl⟩
  ·exact absurd h1 h2
  ·exact ⟨rfl, rfl⟩
theorem swL_len {ls : List Ln} {f t : Int} {name : ByteArray} {ms : List Ln} {ok : Bool} {qs : List Ln} (h : SwL ls f t name ms ok qs) : qs.length ≤ 60 := by
 rcases h with ⟨_, _, rfl⟩ | ⟨_, h1, rfl⟩
 ·simp
 ·exact checkC_len h1.2.2.2.2.2.2.2.2
theorem swL_args {ls : List Ln} {f t : Int} {name : ByteArray} {ms : List Ln} {ok : Bool} {qs : List Ln} (h : SwL ls f t name ms ok qs) (h1 : ∀ l ∈ ls, LnSz l) (h2 : ∀ l ∈ ms, LnSz l) (hn : name.size ≤ 1048576) : ∀ l ∈ qs, l.2.args.length ≤ 1048576 := by
 rcases h with ⟨_, _, rfl⟩ | ⟨_, _, rfl⟩
 ·intro l hl; simp at hl
 ·exact fun l hl => (swapLs_mem h1 h2 (fun k => lnK_sz hn) (fun k => lnK_sz (Nat.zero_le _)) l hl).len
theorem swapE_out {w w' : World} {ls : List Ln} {f t : Int} {name : ByteArray} {ms : List Ln} {e : Ending} (h : SwapE w ls f t name ms e w') : ∃ (so : Option Addr) (sc : Nat) (ok : Bool) (ps : List (Ln × Value)), e = .returned (.tuple #[.slice so ps.length sc, .bool ok]) ∧ Below w.heap.size w w' ∧ OwnLn w.heap.size w' (.slice so ps.length sc) ps ∧ SwL ls f t name ms ok (ps.map (·.1)) := by
 obtain ⟨v, ok, ps, rfl, hb, ho, h⟩ := h
 obtain ⟨so, sc, rfl, _⟩ := own_form ho.row
 refine ⟨so, sc, ok, ps, rfl, hb, ho, ?_⟩
 rcases h with ⟨h1, h2, rfl⟩ | ⟨h1, h2, h3⟩
 ·exact .inl ⟨h1, h2, rfl⟩
 ·exact .inr ⟨h1, h2, h3⟩
section
variable {W : World} {b1 b2 n1 n2 c1 c2 : Nat} {s1 s2 : Option Addr} {ps1 ps2 : List (Ln × Value)}
theorem own_n (h : OwnLn b1 W (.slice s1 n1 c1) ps1) : n1 = ps1.length ∧ n1 ≤ c1 ∧ LinesAt W.heap.size W s1 (ps1.map (·.1)) := by
 obtain ⟨ao', cap', e, hc, hl⟩ := own_lines h
 simp only [Value.slice.injEq] at e
 obtain ⟨rfl, rfl, rfl⟩ := e
 exact ⟨rfl, hc, hl⟩
theorem own_ls {ls : List Ln} (h : OwnLn b1 W (.slice s1 n1 c1) ps1) (hm : ps1.map (·.1) = ls) : LinesAt W.heap.size W s1 ls := by
 have := (own_n h).2.2; rwa [hm] at this
theorem eq_own (h1 : OwnLn b1 W (.slice s1 n1 c1) ps1) (h2 : OwnLn b2 W (.slice s2 n2 c2) ps2) (hl : ps1.length ≤ 1048576) (ha : ∀ l ∈ ps1.map (·.1), l.2.args.length ≤ 1048576) (he : ps1.map (·.1) = ps2.map (·.1)) :
  Calls Tryz.prog 14 #[.slice s1 n1 c1, .slice s2 n2 c2] W fun e w' => e = .returned (.bool true) ∧ Below W.heap.size W w' := by
 obtain ⟨rfl, _, l1⟩ := own_n h1
 obtain ⟨rfl, _, l2⟩ := own_n h2
 have hlen : ps2.length = ps1.length := by have := congrArg List.length he; simpa using this.symm
 have h := eqFlowLineS_any s1 s2 c1 c2 (ps1.map (·.1)) (ps2.map (·.1)) W (by rw [List.length_map]; exact hl) (by rw [List.length_map]; omega) ha (by rw [← he]; exact ha) l1 l2
 rw [List.length_map, List.length_map] at h
 refine h.mono ?_
 rintro e w' ⟨b, rfl, hb, hbl⟩
 exact ⟨by rw [hb.2 he], hbl⟩
theorem held_own (h : OwnLn b1 W (.slice s1 n1 c1) (markP markLn markLnN 1 ps1)) (hk : markEnd markLnN 1 ps1 ≤ 4000000000) (hl : ps1.length ≤ 1048576) :
  Calls Tryz.prog 22 #[.slice s1 n1 c1, .int .i64 1] W fun e w' => e = .returned (.int .i64 (markEnd markLnN 1 ps1 : Nat)) ∧ Below W.heap.size W w' := by
 obtain ⟨e1, _, l1⟩ := own_n h
 rw [markP_len] at e1
 subst e1
 rw [markP_map] at l1
 have h := heldFlowLineS_any s1 c1 (ps1.map (·.1)) 1 W (by rw [← markEnd_map]; exact hk) (by rw [List.length_map]; exact hl) l1
 rw [List.length_map, ← markEnd_map] at h
 exact h
end
theorem ln_mark2 (B : Nat) : ∀ (ps : List (Ln × Value)) (k : Nat), (∀ p ∈ ps, p.1.2.args.length ≤ B) → markEnd markLnN k ps ≤ k + (B + 4) * ps.length
 | [], k, _ => by simp [markEnd]
 | p :: r, k, hp => by
  have h := ln_mark2 B r (k + markLnN p.1) (fun x hx => hp x (by simp [hx]))
  have hb := hp p (by simp)
  have hm : markLnN p.1 = p.1.2.args.length + 4 := rfl
  simp only [markEnd, List.length_cons] at h ⊢
  rw [Nat.mul_succ]
  omega
end
section
open Go.RowKit
theorem verInsert_any (b off cap : Nat) (bo : Option Addr) (cb : Nat) (ls ms : List Ln) (f : Int) (name : ByteArray) (w : World) (hcap : ls.length ≤ cap) (hl : ls.length ≤ 1048576) (hl2 : ms.length ≤ 1048576)
  (hnb : bo = none → cb = 0) (hname : name.size ≤ 1048576) (hz : ∀ l ∈ ls, LnSz l) (hzm : ∀ l ∈ ms, LnSz l) (hi : LinesAt w.heap.size w (some ⟨b, off, none⟩) ls) (hj : LinesAt w.heap.size w bo ms) (he : Env w) :
  Calls Tryz.prog 24 #[.slice (some ⟨b, off, none⟩) ls.length cap, .int .i64 f, .string name, .slice bo ms.length cb] w (SwapE w ls f f name ms) := by
 have HC := (show Hid _ from verSwap_any b off cap bo cb ls ms f f name w hcap hl hl2 hnb hname hz hzm hi hj he)
 clear hz hzm hi hj he hnb
 go_enter Tryz.func24, Tryz.ntmps24
 go_wp2_with fail
 refine Calls.mono HC.out ?_
 rintro e w1 ⟨v, ok, ps, rfl, hb, ho, h⟩
 have HR := (show Hid _ from (⟨hb, ho, h⟩ : _ ∧ _ ∧ _))
 clear hb ho h
 go_wp2
 go_ret2
 exact ⟨v, ok, ps, rfl, HR.out.1, HR.out.2.1, HR.out.2.2⟩
theorem verInsertS_any (b off cap : Nat) (bo : Option Addr) (cb : Nat) (ls ms : List Ln) (f : Int) (name : ByteArray) (w : World) (hcap : ls.length ≤ cap) (hl : ls.length ≤ 1048576) (hl2 : ms.length ≤ 1048576)
  (hnb : bo = none → cb = 0) (hname : name.size ≤ 1048576) (hz : ∀ l ∈ ls, LnSz l) (hzm : ∀ l ∈ ms, LnSz l) (hi : LinesAt w.heap.size w (some ⟨b, off, none⟩) ls) (hj : LinesAt w.heap.size w bo ms) :
  Calls Tryz.prog 23 #[.slice (some ⟨b, off, none⟩) ls.length cap, .int .i64 f, .string name, .slice bo ms.length cb] w (SwapE w ls f f name ms) := by
 have HC := (show Hid _ from verSwapS_any b off cap bo cb ls ms f f name w hcap hl hl2 hnb hname hz hzm hi hj)
 clear hz hzm hi hj hnb
 go_enter Tryz.func23, Tryz.ntmps23
 go_wp2_with fail
 refine Calls.mono HC.out ?_
 rintro e w1 ⟨v, ok, ps, rfl, hb, ho, h⟩
 have HR := (show Hid _ from (⟨hb, ho, h⟩ : _ ∧ _ ∧ _))
 clear hb ho h
 go_wp2
 go_ret2
 exact ⟨v, ok, ps, rfl, HR.out.1, HR.out.2.1, HR.out.2.2⟩
end
end Go.Proofs.YtlbjjbolbopfmaaGreatDoor
