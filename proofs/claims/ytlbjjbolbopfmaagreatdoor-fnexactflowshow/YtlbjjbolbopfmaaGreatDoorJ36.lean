import Derived.Test.YtlbjjbolbopfmaaGreatDoorJ35
import Derived.Test.YtlbjjbolbopfmaaGreatDoorJ18
import Derived.Test.YtlbjjbolbopfmaaGreatDoorJ03
import Derived.Test.YtlbjjbolbopfmaaGreatDoorJ19
import Derived.Test.YtlbjjbolbopfmaaGreatDoorJ24
import Derived.Test.YtlbjjbolbopfmaaGreatDoorJ17
namespace Go.Proofs.YtlbjjbolbopfmaaGreatDoor
set_option maxHeartbeats 8000000
set_option maxRecDepth 1000000
set_option linter.unusedVariables false
section
open Go.RowKit
theorem z_ih (q base : Nat) (lo : Option Addr) (cap : Nat) (ls : List Ln) (at_ at2 at3 : Nat) (f : Nat → List Stp) (d : Nat) (g : Nat → Nat → List Stp) (hl : ls.length ≤ 60) (hat : at_ < ls.length) (hat3 : at3 ≤ 1000) (hk : ls[at_].1 = 8) (hz : LnSz ls[at_]) (N NI NT m : Nat) (hN : N ≤ 500) (hNI : N + 1 ≤ NI) (hm : m ≤ 400) (hNT : N + m ≤ NT) (hfl : ∀ n, (f n).length ≤ m)
  (HI : BlkOK q base lo cap ls 109 at_ at2 NI f) (HT : z_dk q base lo cap ls 112 at2 at3 NT (fun i => #[.int .i64 i]) d g) :
  BlkOK q base lo cap ls 75 at_ (at3 + 1) N (fun n => z_as ls[at_] ((n + 1 : Nat) : Int) ((n + 1 + (f (n + 1)).length + d : Nat) : Int) :: (f (n + 1) ++ g n (n + 1 + (f (n + 1)).length))) := by
 intro w v ps hs hps
 have HHI : Hid (BlkOK q base lo cap ls 109 at_ at2 NI f) := HI
 have HHT : Hid (z_dk q base lo cap ls 112 at2 at3 NT (fun i => #[.int .i64 i]) d g) := HT
 clear HI HT
 have HS : Hid (MkSt q base lo cap ls w at_ v ps) := hs
 have HFL : Hid (∀ n, (f n).length ≤ m) := hfl
 obtain ⟨b, off, rfl, hB, aoA, capA, hcA, q0, q1, q2, q3, q4, hA⟩ := hs.linesW at_ hat
 obtain ⟨L, hL⟩ : ∃ L, L = ls[at_] := ⟨_, rfl⟩
 rw [← hL] at q0 q1 q2 q3 q4 hA hcA hz hk ⊢
 clear hL hfl
 obtain ⟨kd, dd⟩ := L
 simp only at q0 q1 q2 q3 q4 hcA hA hk
 subst hk
 have HZ : Hid (LnSz (8, dd)) := hz
 have HA : Hid (StrsAt 0 w.heap.size w aoA dd.args) := hA
 have hop : z_am 8 = true := rfl
 have w1 := hs.c1
 have w2 := hs.c2
 have hqlt := hs.lt
 obtain ⟨n, hn⟩ : ∃ n, n = ps.length := ⟨_, rfl⟩
 have HN : Hid (ps.length = n) := hn.symm
 have hn5 : n ≤ N := by omega
 clear hs hz hA hn hps
 go_enter Tryz.func75, Tryz.ntmps75
 go_wp2
 go_region
 all_goals
  obtain ⟨W1, hW1⟩ : ∃ W1, W1 = (w.alloc (.cells #[.int .i64 8, .string dd.to, .string dd.name, .slice aoA dd.args.length capA, .string dd.undo] 49)).drew := ⟨_, rfl⟩
  have hbw : Below w.heap.size w W1 := by rw [hW1]; exact ((Below.refl _ _).alloc (Nat.le_refl _) _).drew
  have HX1 : LBox W1 w.heap.size (8, dd) aoA capA := by rw [hW1]; exact heap_alloc_new w _
  have hsz1 : W1.heap.size = w.heap.size + 1 := by rw [hW1]; simp
  rw [← hW1]
  clear hW1
  have HS1 : Hid (MkSt q base (some ⟨b, off, none⟩) cap ls W1 at_ v ps) := HS.out.below hbw
  have HA1 : Hid (StrsAt 0 W1.heap.size W1 aoA dd.args) := HA.out.later hbw
  have HK1 : Hid (Wk q v.ownBlock w W1) := Wk.of_below hbw
  obtain ⟨x0, x1, x2, x3, x4⟩ := HX1.cells
  have hlt1 : w.heap.size < W1.heap.size := by omega
  clear hbw q0 q1 q2 q3 q4 w1 w2
  go_wp2_with fail
  refine (z_cz q base _ cap ls at_ v _ n _ HS1.out HN.out (by omega)).mono ?_
  rintro e wx ⟨rfl, rfl⟩
  go_wp2_with fail
  go_region_held3 (fun wz => wz.cell? ⟨w.heap.size, 0, none⟩ = some (.int .i64 8) ∧ wz.cell? ⟨w.heap.size, 1, none⟩ = some (.string dd.to) ∧ wz.cell? ⟨w.heap.size, 2, none⟩ = some (.string dd.name) ∧ wz.cell? ⟨w.heap.size, 3, none⟩ = some (.slice aoA dd.args.length capA) ∧ wz.cell? ⟨w.heap.size, 4, none⟩ = some (.string dd.undo))
   (first | (go_keep; done) | exact HY2.out | exact HY3.out)
   (first
    | (go_at_call 108; refine (z_db (8, dd) aoA capA _ HZ.out.len (HA1.out.later (Below.refl _ _).drew)).mono ?_; rintro e W2 ⟨uo, uc, rfl, hb2, hu2⟩; obtain ⟨HS2, HY2, HK2, HX2, HU2, HAp2, hsz2⟩ := z_dL HS1.out HX1 hb2 hu2; clear hb2 hu2)
    | (go_at_call 107; refine (z_fq q base (some ⟨b, off, none⟩) cap ls at_ v ps (z_as (8, dd) 0 0) uo uc _ HS2.out (by rw [HN.out]; omega) HU2.out HAp2.out).mono ?_; rintro e W3 ⟨v3, nb, na, rfl, h3, hk3, hr3, hf3⟩; obtain ⟨HS3, HY3, HK3, HX3, HF3⟩ := z_dj HS1.out HK1.out HK2.out HS2.out HX2.out hf3 h3 hk3 hr3; clear h3 hk3 hr3 hf3))
  all_goals
   obtain ⟨y0, y1, y2, y3, y4⟩ := HX3.out.cells
   go_wp2_with (go_at_call 84; refine (z_bb _ _).mono ?_; rintro e wx ⟨rfl, rfl⟩; rw [hop])
   have hn1 : (ps ++ [(z_as (8, dd) 0 0, Value.slice uo dd.args.length uc)]).length = n + 1 := by have := HN.out; simp; omega
   refine (z_cz q base _ cap ls at_ v3 _ (n + 1) _ HS3.out hn1 (by omega)).mono ?_
   rintro e wx ⟨rfl, rfl⟩
   go_wp2_with fail
   refine (z_co q base _ cap ls at_ v3 ps [] _ nb na (n + 1 : Nat) _ HS3.out HF3.out (by have := HN.out; simp; omega)).mono ?_
   rintro e W4 ⟨rfl, h4, hk4⟩
   have HF4 : Hid (FillB q W4 nb na ps.length) := HF3.out.keep HS3.out hk4
   have HX4 : Hid (LBox W4 w.heap.size (8, dd) aoA capA) := HX3.out.keep HS3.out hk4
   have HS4 : Hid (MkSt q base (some ⟨b, off, none⟩) cap ls W4 at_ v3 (ps ++ [(setA (z_as (8, dd) 0 0) ((n + 1 : Nat) : Int), Value.slice uo dd.args.length uc)])) := h4
   have HK4 : Hid (Wk q v.ownBlock w W4 ∧ RowTo w v v3) := ⟨HK3.out.1.trans hk4 HK3.out.2.or, HK3.out.2⟩
   clear h4 hk4 y0 y1 y2 y3 y4 HF3
   go_wp2_with fail
   refine (HHI.out W4 v3 _ HS4.out (by simp [HN.out]; omega)).mono ?_
   rintro e W5 ⟨rfl, v5, qs, hqs, h5, hk5, hr5⟩
   have hn4 : (ps ++ [(setA (z_as (8, dd) 0 0) ((n + 1 : Nat) : Int), Value.slice uo dd.args.length uc)]).length = n + 1 := by have := HN.out; simp; omega
   rw [hn4] at hqs
   have hql : qs.length = (f (n + 1)).length := by rw [← hqs]; simp
   have hql2 : qs.length ≤ m := by rw [hql]; exact HFL.out _
   have HQS : Hid (qs.map (·.1) = f (n + 1)) := hqs
   have HQL : Hid (qs.length = (f (n + 1)).length) := hql
   have HF5 : Hid (FillB q W5 nb na ps.length) := HF4.out.keep HS4.out hk5
   have HX5 : Hid (LBox W5 w.heap.size (8, dd) aoA capA) := HX4.out.keep HS4.out hk5
   have e5 : (ps ++ [(setA (z_as (8, dd) 0 0) ((n + 1 : Nat) : Int), Value.slice uo dd.args.length uc)]) ++ qs = ps ++ (setA (z_as (8, dd) 0 0) ((n + 1 : Nat) : Int), Value.slice uo dd.args.length uc) :: qs := by simp
   rw [e5] at h5
   have HS5 : Hid (MkSt q base (some ⟨b, off, none⟩) cap ls W5 at2 v5 (ps ++ (setA (z_as (8, dd) 0 0) ((n + 1 : Nat) : Int), Value.slice uo dd.args.length uc) :: qs)) := h5
   have HK5 : Hid (Wk q v.ownBlock w W5 ∧ RowTo w v v5) := ⟨HK4.out.1.trans hk5 HK4.out.2.or, HK4.out.2.trans hr5 HK4.out.1.size⟩
   obtain ⟨y0, y1, y2, y3, y4⟩ := HX5.out.cells
   clear h5 hk5 hr5 hqs hql HX4 HF4 HS4 HK4
   go_wp2_with (go_at_call 110; refine (z_aX _ _).mono ?_; rintro e W5 ⟨rfl, rfl⟩)
   have HTl := HHT.out W5 v5 ps _ qs nb na HS5.out HF5.out (by rw [HN.out]; omega)
   rw [HN.out] at HTl
   refine HTl.mono ?_
   clear HTl y0 y1 y2 y3 y4
   rintro e W6 ⟨rfl, v6, rs, hrs, h6, hk6, hr6⟩
   have HS6 : Hid (MkSt q base (some ⟨b, off, none⟩) cap ls W6 at3 v6 _) := h6
   have HRS : Hid (rs.map (·.1) = g n (ps.length + 1 + qs.length)) := hrs
   have HK6 : Hid (Wk q v.ownBlock w W6 ∧ RowTo w v v6) := ⟨HK5.out.1.trans hk6 HK5.out.2.or, HK5.out.2.trans hr6 HK5.out.1.size⟩
   have HX6 : Hid (LBox W6 w.heap.size (8, dd) aoA capA) := HX5.out.keep HS5.out hk6
   have z2 := h6.c2
   have zf := h6.fz 2
   have zlt := h6.lt
   obtain ⟨y0, y1, y2, y3, y4⟩ := HX6.out.cells
   clear h6 hk6 hr6 hrs HX5 HF5 HK5
   go_wp2
   go_end0
   have e7 : ((at3 + 1 : Nat) : Int) = (at3 : Int) + 1 := by omega
   have hs7 := HS6.out.set2 (at3 + 1)
   rw [e7] at hs7
   refine ⟨rfl, v6, (z_as (8, dd) ((n + 1 : Nat) : Int) ((n + 1 + (f (n + 1)).length + d : Nat) : Int), Value.slice uo dd.args.length uc) :: (qs ++ rs), ?_, ?_, HK6.out.1.trans (Wk.of_set (row := v6.ownBlock) 2 _) HK6.out.2.or, HK6.out.2⟩
   ·have h1 := HRS.out
    have h2 := HQS.out
    rw [List.map_cons, List.map_append, h1, h2, HQL.out, HN.out]
   ·rw [HN.out, HQL.out] at hs7
    exact hs7
end
section
open Go.RowKit
theorem z_ix (q base : Nat) (lo : Option Addr) (cap : Nat) (ls : List Ln) (at_ at2 at3 : Nat) (f : Nat → List Stp) (d : Nat) (g : Nat → Nat → List Stp) (hl : ls.length ≤ 60) (hat : at_ < ls.length) (hat3 : at3 ≤ 1000) (hk : ls[at_].1 = 9) (hz : LnSz ls[at_]) (N NI NT m : Nat) (hN : N ≤ 500) (hNI : N + 1 ≤ NI) (hm : m ≤ 400) (hNT : N + m ≤ NT) (hfl : ∀ n, (f n).length ≤ m)
  (HI : BlkOK q base lo cap ls 109 at_ at2 NI f) (HT : z_dk q base lo cap ls 113 at2 at3 NT (fun i => #[]) d g) :
  BlkOK q base lo cap ls 75 at_ (at3 + 1) N (fun n => z_as ls[at_] ((n + 1 : Nat) : Int) ((n + 1 + (f (n + 1)).length + d : Nat) : Int) :: (f (n + 1) ++ g n (n + 1 + (f (n + 1)).length))) := by
 intro w v ps hs hps
 have HHI : Hid (BlkOK q base lo cap ls 109 at_ at2 NI f) := HI
 have HHT : Hid (z_dk q base lo cap ls 113 at2 at3 NT (fun i => #[]) d g) := HT
 clear HI HT
 have HS : Hid (MkSt q base lo cap ls w at_ v ps) := hs
 have HFL : Hid (∀ n, (f n).length ≤ m) := hfl
 obtain ⟨b, off, rfl, hB, aoA, capA, hcA, q0, q1, q2, q3, q4, hA⟩ := hs.linesW at_ hat
 obtain ⟨L, hL⟩ : ∃ L, L = ls[at_] := ⟨_, rfl⟩
 rw [← hL] at q0 q1 q2 q3 q4 hA hcA hz hk ⊢
 clear hL hfl
 obtain ⟨kd, dd⟩ := L
 simp only at q0 q1 q2 q3 q4 hcA hA hk
 subst hk
 have HZ : Hid (LnSz (9, dd)) := hz
 have HA : Hid (StrsAt 0 w.heap.size w aoA dd.args) := hA
 have hop : z_am 9 = true := rfl
 have w1 := hs.c1
 have w2 := hs.c2
 have hqlt := hs.lt
 obtain ⟨n, hn⟩ : ∃ n, n = ps.length := ⟨_, rfl⟩
 have HN : Hid (ps.length = n) := hn.symm
 have hn5 : n ≤ N := by omega
 clear hs hz hA hn hps
 go_enter Tryz.func75, Tryz.ntmps75
 go_wp2
 go_region
 all_goals
  obtain ⟨W1, hW1⟩ : ∃ W1, W1 = (w.alloc (.cells #[.int .i64 9, .string dd.to, .string dd.name, .slice aoA dd.args.length capA, .string dd.undo] 49)).drew := ⟨_, rfl⟩
  have hbw : Below w.heap.size w W1 := by rw [hW1]; exact ((Below.refl _ _).alloc (Nat.le_refl _) _).drew
  have HX1 : LBox W1 w.heap.size (9, dd) aoA capA := by rw [hW1]; exact heap_alloc_new w _
  have hsz1 : W1.heap.size = w.heap.size + 1 := by rw [hW1]; simp
  rw [← hW1]
  clear hW1
  have HS1 : Hid (MkSt q base (some ⟨b, off, none⟩) cap ls W1 at_ v ps) := HS.out.below hbw
  have HA1 : Hid (StrsAt 0 W1.heap.size W1 aoA dd.args) := HA.out.later hbw
  have HK1 : Hid (Wk q v.ownBlock w W1) := Wk.of_below hbw
  obtain ⟨x0, x1, x2, x3, x4⟩ := HX1.cells
  have hlt1 : w.heap.size < W1.heap.size := by omega
  clear hbw q0 q1 q2 q3 q4 w1 w2
  go_wp2_with fail
  refine (z_cz q base _ cap ls at_ v _ n _ HS1.out HN.out (by omega)).mono ?_
  rintro e wx ⟨rfl, rfl⟩
  go_wp2_with fail
  go_region_held3 (fun wz => wz.cell? ⟨w.heap.size, 0, none⟩ = some (.int .i64 9) ∧ wz.cell? ⟨w.heap.size, 1, none⟩ = some (.string dd.to) ∧ wz.cell? ⟨w.heap.size, 2, none⟩ = some (.string dd.name) ∧ wz.cell? ⟨w.heap.size, 3, none⟩ = some (.slice aoA dd.args.length capA) ∧ wz.cell? ⟨w.heap.size, 4, none⟩ = some (.string dd.undo))
   (first | (go_keep; done) | exact HY2.out | exact HY3.out)
   (first
    | (go_at_call 108; refine (z_db (9, dd) aoA capA _ HZ.out.len (HA1.out.later (Below.refl _ _).drew)).mono ?_; rintro e W2 ⟨uo, uc, rfl, hb2, hu2⟩; obtain ⟨HS2, HY2, HK2, HX2, HU2, HAp2, hsz2⟩ := z_dL HS1.out HX1 hb2 hu2; clear hb2 hu2)
    | (go_at_call 107; refine (z_fq q base (some ⟨b, off, none⟩) cap ls at_ v ps (z_as (9, dd) 0 0) uo uc _ HS2.out (by rw [HN.out]; omega) HU2.out HAp2.out).mono ?_; rintro e W3 ⟨v3, nb, na, rfl, h3, hk3, hr3, hf3⟩; obtain ⟨HS3, HY3, HK3, HX3, HF3⟩ := z_dj HS1.out HK1.out HK2.out HS2.out HX2.out hf3 h3 hk3 hr3; clear h3 hk3 hr3 hf3))
  all_goals
   obtain ⟨y0, y1, y2, y3, y4⟩ := HX3.out.cells
   go_wp2_with (go_at_call 84; refine (z_bb _ _).mono ?_; rintro e wx ⟨rfl, rfl⟩; rw [hop])
   have hn1 : (ps ++ [(z_as (9, dd) 0 0, Value.slice uo dd.args.length uc)]).length = n + 1 := by have := HN.out; simp; omega
   refine (z_cz q base _ cap ls at_ v3 _ (n + 1) _ HS3.out hn1 (by omega)).mono ?_
   rintro e wx ⟨rfl, rfl⟩
   go_wp2_with fail
   refine (z_co q base _ cap ls at_ v3 ps [] _ nb na (n + 1 : Nat) _ HS3.out HF3.out (by have := HN.out; simp; omega)).mono ?_
   rintro e W4 ⟨rfl, h4, hk4⟩
   have HF4 : Hid (FillB q W4 nb na ps.length) := HF3.out.keep HS3.out hk4
   have HX4 : Hid (LBox W4 w.heap.size (9, dd) aoA capA) := HX3.out.keep HS3.out hk4
   have HS4 : Hid (MkSt q base (some ⟨b, off, none⟩) cap ls W4 at_ v3 (ps ++ [(setA (z_as (9, dd) 0 0) ((n + 1 : Nat) : Int), Value.slice uo dd.args.length uc)])) := h4
   have HK4 : Hid (Wk q v.ownBlock w W4 ∧ RowTo w v v3) := ⟨HK3.out.1.trans hk4 HK3.out.2.or, HK3.out.2⟩
   clear h4 hk4 y0 y1 y2 y3 y4 HF3
   go_wp2_with fail
   refine (HHI.out W4 v3 _ HS4.out (by simp [HN.out]; omega)).mono ?_
   rintro e W5 ⟨rfl, v5, qs, hqs, h5, hk5, hr5⟩
   have hn4 : (ps ++ [(setA (z_as (9, dd) 0 0) ((n + 1 : Nat) : Int), Value.slice uo dd.args.length uc)]).length = n + 1 := by have := HN.out; simp; omega
   rw [hn4] at hqs
   have hql : qs.length = (f (n + 1)).length := by rw [← hqs]; simp
   have hql2 : qs.length ≤ m := by rw [hql]; exact HFL.out _
   have HQS : Hid (qs.map (·.1) = f (n + 1)) := hqs
   have HQL : Hid (qs.length = (f (n + 1)).length) := hql
   have HF5 : Hid (FillB q W5 nb na ps.length) := HF4.out.keep HS4.out hk5
   have HX5 : Hid (LBox W5 w.heap.size (9, dd) aoA capA) := HX4.out.keep HS4.out hk5
   have e5 : (ps ++ [(setA (z_as (9, dd) 0 0) ((n + 1 : Nat) : Int), Value.slice uo dd.args.length uc)]) ++ qs = ps ++ (setA (z_as (9, dd) 0 0) ((n + 1 : Nat) : Int), Value.slice uo dd.args.length uc) :: qs := by simp
   rw [e5] at h5
   have HS5 : Hid (MkSt q base (some ⟨b, off, none⟩) cap ls W5 at2 v5 (ps ++ (setA (z_as (9, dd) 0 0) ((n + 1 : Nat) : Int), Value.slice uo dd.args.length uc) :: qs)) := h5
   have HK5 : Hid (Wk q v.ownBlock w W5 ∧ RowTo w v v5) := ⟨HK4.out.1.trans hk5 HK4.out.2.or, HK4.out.2.trans hr5 HK4.out.1.size⟩
   obtain ⟨y0, y1, y2, y3, y4⟩ := HX5.out.cells
   clear h5 hk5 hr5 hqs hql HX4 HF4 HS4 HK4
   go_wp2_with (go_at_call 110; refine (z_aX _ _).mono ?_; rintro e W5 ⟨rfl, rfl⟩)
   have HTl := HHT.out W5 v5 ps _ qs nb na HS5.out HF5.out (by rw [HN.out]; omega)
   rw [HN.out] at HTl
   refine HTl.mono ?_
   clear HTl y0 y1 y2 y3 y4
   rintro e W6 ⟨rfl, v6, rs, hrs, h6, hk6, hr6⟩
   have HS6 : Hid (MkSt q base (some ⟨b, off, none⟩) cap ls W6 at3 v6 _) := h6
   have HRS : Hid (rs.map (·.1) = g n (ps.length + 1 + qs.length)) := hrs
   have HK6 : Hid (Wk q v.ownBlock w W6 ∧ RowTo w v v6) := ⟨HK5.out.1.trans hk6 HK5.out.2.or, HK5.out.2.trans hr6 HK5.out.1.size⟩
   have HX6 : Hid (LBox W6 w.heap.size (9, dd) aoA capA) := HX5.out.keep HS5.out hk6
   have z2 := h6.c2
   have zf := h6.fz 2
   have zlt := h6.lt
   obtain ⟨y0, y1, y2, y3, y4⟩ := HX6.out.cells
   clear h6 hk6 hr6 hrs HX5 HF5 HK5
   go_wp2
   go_end0
   have e7 : ((at3 + 1 : Nat) : Int) = (at3 : Int) + 1 := by omega
   have hs7 := HS6.out.set2 (at3 + 1)
   rw [e7] at hs7
   refine ⟨rfl, v6, (z_as (9, dd) ((n + 1 : Nat) : Int) ((n + 1 + (f (n + 1)).length + d : Nat) : Int), Value.slice uo dd.args.length uc) :: (qs ++ rs), ?_, ?_, HK6.out.1.trans (Wk.of_set (row := v6.ownBlock) 2 _) HK6.out.2.or, HK6.out.2⟩
   ·have h1 := HRS.out
    have h2 := HQS.out
    rw [List.map_cons, List.map_append, h1, h2, HQL.out, HN.out]
   ·rw [HN.out, HQL.out] at hs7
    exact hs7
end
section
open Go.RowKit
def z_b2 : Nat → Bl → List Stp
 | _, .nil => []
 | _, .plain l _ => [z_as l 0 0]
 | n, .one l p _ _ =>
  if l.1 = 8 then z_as l (n + 1 : Nat) (n + 2 + z_aA p : Nat) :: (z_aM (n + 1) p ++ [z_ap 7 n])
  else z_as l (n + 1 : Nat) (n + 1 + z_aA p : Nat) :: z_aM (n + 1) p
 | n, .two l p _ q _ _ =>
  if l.1 = 9 then z_as l (n + 1 : Nat) (n + 2 + z_aA p : Nat) :: (z_aM (n + 1) p ++ z_ap 9 (n + 3 + z_aA p + z_aA q : Nat) :: (z_aM (n + 2 + z_aA p) q ++ [z_ap 9 (n + 3 + z_aA p + z_aA q : Nat)]))
  else z_as l (n + 1 : Nat) (n + 2 + z_aA p : Nat) :: (z_aM (n + 1) p ++ z_ap 7 (n + 2 + z_aA p + z_aA q : Nat) :: z_aM (n + 2 + z_aA p) q)
theorem z_iD (n : Nat) (t : Bl) (h : z_aR t = true) : z_aM n t = z_b2 n t ++ z_aM (n + (z_b2 n t).length) (z_aO t) := by
 cases t with
 | nil => cases h
 | plain l r => simp [z_aM, z_b2, z_aO]
 | one l p e r =>
  simp only [z_aM, z_b2, z_aO]
  split
  ·simp only [List.length_cons, List.length_append, z_at, List.length_nil, List.cons_append, List.append_assoc, List.nil_append]
   rw [show n + (z_aA p + (0 + 1) + 1) = n + 2 + z_aA p by omega]
  ·simp only [List.length_cons, z_at, List.cons_append]
   rw [show n + (z_aA p + 1) = n + 1 + z_aA p by omega]
 | two l p m q e r =>
  simp only [z_aM, z_b2, z_aO]
  split
  ·simp only [List.length_cons, List.length_append, z_at, List.length_nil, List.cons_append, List.append_assoc, List.nil_append]
   rw [show n + (z_aA p + (z_aA q + (0 + 1) + 1) + 1) = n + 3 + z_aA p + z_aA q by omega]
  ·simp only [List.length_cons, List.length_append, z_at, List.cons_append, List.append_assoc]
   rw [show n + (z_aA p + (z_aA q + 1) + 1) = n + 2 + z_aA p + z_aA q by omega]
theorem z_hY (n : Nat) (t : Bl) (hw : t.wf) : (z_b2 n t).length ≤ z_ai t := by
 cases t with
 | nil => exact Nat.zero_le _
 | plain l r => simp [z_b2, z_ai]
 | one l p e r =>
  have := z_aT p hw.2.2.2.1
  simp only [z_b2, z_ai]
  split <;> simp [z_at] <;> omega
 | two l p m q e r =>
  have h1 := z_aT p hw.2.2.1
  have h2 := z_aT q hw.2.2.2.1
  simp only [z_b2, z_ai]
  split <;> simp [z_at] <;> omega
def z_no (n q base : Nat) (lo : Option Addr) (cap : Nat) (ls : List Ln) : Prop :=
 ∀ (p : Bl) (rest : List Ln) (at_ : Nat), p.flat.length ≤ n → p.wf → ls.drop at_ = p.flat ++ rest → z_jq rest →
  BlkOK q base lo cap ls 34 at_ (at_ + p.flat.length) (500 - p.flat.length) (fun k => z_aM k p)
theorem BlkOK.congr {q base : Nat} {lo : Option Addr} {cap : Nat} {ls : List Ln} {F at_ at2 at3 N : Nat} {f g : Nat → List Stp} (h : BlkOK q base lo cap ls F at_ at2 N f) (e : at2 = at3) (hfg : ∀ n, f n = g n) : BlkOK q base lo cap ls F at_ at3 N g := by
 subst e
 intro w v ps hs hN
 rw [← hfg]
 exact h w v ps hs hN
theorem z_i1 (n q base : Nat) (lo : Option Addr) (cap : Nat) (ls : List Ln) (hl : ls.length ≤ 60) (hz : ∀ l ∈ ls, LnSz l) (IH : z_no n q base lo cap ls)
  (t : Bl) (rest : List Ln) (at_ : Nat) (ht : t.flat.length ≤ n + 1) (hn : z_aR t = true) (hw : t.wf) (hd : ls.drop at_ = t.flat ++ rest) :
  BlkOK q base lo cap ls 75 at_ (at_ + z_ai t) (500 - z_ai t) (fun k => z_b2 k t) := by
 have hfl : at_ + t.flat.length ≤ ls.length := by
  have h := congrArg List.length hd
  obtain ⟨hx, _⟩ := z_bX hd hn
  simp at h; omega
 cases t with
 | nil => cases hn
 | plain l r =>
  obtain ⟨h1, h2, _⟩ := z_a2 (a := l) (r := r.flat ++ rest) hd
  have h := z_gQ q base lo cap ls at_ hl h1 (by rw [h2]; exact hw.1) (hz _ (List.getElem_mem h1))
  rw [h2] at h
  intro w v ps hs hN
  exact h w v ps hs (by omega)
 | one l p e r =>
  have hd1 : ls.drop at_ = l :: (p.flat ++ (e :: (r.flat ++ rest))) := by rw [hd]; simp [Bl.flat]
  obtain ⟨h1, h2, h3⟩ := z_a2 hd1
  have h4 := z_bB h3
  obtain ⟨h5, h6, _⟩ := z_a2 h4
  simp only [Bl.flat, List.length_cons, List.length_append] at ht hfl
  have hB := IH p _ (at_ + 1) (by omega) hw.2.2.2.1 h3 (.inr ⟨e, _, rfl, by rw [hw.2.2.1]; rfl⟩)
  have hI := z_hI q base lo cap ls at_ _ _ _ (by omega) hB
  have hsz := z_aT p hw.2.2.2.1
  have hm : ∀ n, (z_aM n p).length ≤ p.flat.length := fun n => by rw [z_at]; exact hsz
  have hz1 := hz _ (List.getElem_mem h1)
  cases hch : z_aE l.1 with
  | true =>
   have h8 : l.1 ≠ 8 := fun h => by rw [h] at hch; cases hch
   have hC := z_g5 q base lo cap ls (at_ + 1 + p.flat.length) hl h5 (by rw [h6, hw.2.2.1]; rfl)
   have hL := z_dq q base lo cap ls at_ _ _ _ 0 _ hl h1 (by omega) (by rw [h2]; exact hch) hz1 (500 - z_ai (.one l p e r)) _ 1000 p.flat.length (by omega) (by simp only [z_ai]; omega) (by omega) (by omega) hm hI hC
   rw [h2] at hL
   refine hL.congr (by simp only [z_ai]; omega) fun k => ?_
   simp only [z_b2, if_neg h8, z_at, Nat.add_zero, List.append_nil]
  | false =>
   have h8 : l.1 = 8 := by
    have ho := hw.1
    rw [z_b6] at ho
    have h9 := hw.2.1
    rcases ho with h | h | h | h
    ·rw [h] at hch; cases hch
    ·rw [h] at hch; cases hch
    ·exact h
    ·exact absurd h h9
   have hC := z_m9 q base lo cap ls (at_ + 1 + p.flat.length)
   have hL := z_ih q base lo cap ls at_ _ _ _ 1 _ hl h1 (by omega) (by rw [h2]; exact h8) hz1 (500 - z_ai (.one l p e r)) _ 1000 p.flat.length (by omega) (by simp only [z_ai]; omega) (by omega) (by omega) hm hI hC
   rw [h2] at hL
   refine hL.congr (by simp only [z_ai]; omega) fun k => ?_
   simp only [z_b2, if_pos h8, z_at]
   rw [show k + 1 + z_aA p + 1 = k + 2 + z_aA p by omega]
 | two l p m qq e r =>
  have hd1 : ls.drop at_ = l :: (p.flat ++ (m :: (qq.flat ++ (e :: (r.flat ++ rest))))) := by rw [hd]; simp [Bl.flat]
  obtain ⟨h1, h2, h3⟩ := z_a2 hd1
  have h4 := z_bB h3
  obtain ⟨h5, h6, h7⟩ := z_a2 h4
  have h8 := z_bB h7
  obtain ⟨h9, h10, _⟩ := z_a2 h8
  simp only [Bl.flat, List.length_cons, List.length_append] at ht hfl
  have hmc : z_ae m.1 = true := by rcases hw.1 with ⟨_, h⟩ | ⟨_, h⟩ <;> rw [h] <;> rfl
  have hec : z_ae e.1 = true := by rw [hw.2.1]; rfl
  have hB1 := IH p _ (at_ + 1) (by omega) hw.2.2.1 h3 (.inr ⟨m, _, rfl, hmc⟩)
  have hI1 := z_hI q base lo cap ls at_ _ _ _ (by omega) hB1
  have hB2 := IH qq _ (at_ + 1 + p.flat.length + 1) (by omega) hw.2.2.2.1 h7 (.inr ⟨e, _, rfl, hec⟩)
  have hI2 := z_hI q base lo cap ls (at_ + 1 + p.flat.length) _ _ _ (by omega) hB2
  have hs1 := z_aT p hw.2.2.1
  have hs2 := z_aT qq hw.2.2.2.1
  have hm1 : ∀ n, (z_aM n p).length ≤ p.flat.length := fun n => by rw [z_at]; exact hs1
  have hm2 : ∀ n, (z_aM n qq).length ≤ 1000 := fun n => by rw [z_at]; omega
  have hz1 := hz _ (List.getElem_mem h1)
  rcases hw.1 with ⟨hch, hm7⟩ | ⟨hl9, hm10⟩
  ·have hn9 : l.1 ≠ 9 := fun h => by rw [h] at hch; cases hch
   have hC := z_gV q base lo cap ls (at_ + 1 + p.flat.length) _ _ hl h5 (by rw [h6]; exact hm7) (500 - z_ai (.two l p m qq e r) + p.flat.length) _ (by omega) (by simp only [z_ai]; omega) hm2 hI2
   have hL := z_dq q base lo cap ls at_ _ _ _ 1 _ hl h1 (by omega) (by rw [h2]; exact hch) hz1 (500 - z_ai (.two l p m qq e r)) _ _ p.flat.length (by omega) (by simp only [z_ai]; omega) (by omega) (Nat.le_refl _) hm1 hI1 hC
   rw [h2] at hL
   refine hL.congr (by simp only [z_ai]; omega) fun k => ?_
   simp only [z_b2, if_neg hn9, z_at]
   rw [show k + 1 + z_aA p + 1 = k + 2 + z_aA p by omega]
  ·have hC := z_nb q base lo cap ls (at_ + 1 + p.flat.length) _ _ (500 - z_ai (.two l p m qq e r) + p.flat.length) _ (by omega) (by simp only [z_ai]; omega) hm2 hI2
   have hL := z_ix q base lo cap ls at_ _ _ _ 1 _ hl h1 (by omega) (by rw [h2]; exact hl9) hz1 (500 - z_ai (.two l p m qq e r)) _ _ p.flat.length (by omega) (by simp only [z_ai]; omega) (by omega) (Nat.le_refl _) hm1 hI1 hC
   rw [h2] at hL
   refine hL.congr (by simp only [z_ai]; omega) fun k => ?_
   simp only [z_b2, if_pos hl9, z_at]
   rw [show k + 1 + z_aA p + 1 = k + 2 + z_aA p by omega, show k + 1 + z_aA p + 2 + z_aA qq = k + 3 + z_aA p + z_aA qq by omega]
end
section
open Go.RowKit
def LnIH (m q base : Nat) (lo : Option Addr) (cap : Nat) (ls : List Ln) : Prop :=
 ∀ (t : Bl) (rest : List Ln) (at_ : Nat), t.flat.length ≤ m → z_aR t = true → t.wf → ls.drop at_ = t.flat ++ rest →
  BlkOK q base lo cap ls 75 at_ (at_ + z_ai t) (500 - z_ai t) (fun k => z_b2 k t)
def mkAt (q : Nat) (w : World) : Nat := match w.cell? ⟨q, 2, none⟩ with
 | some v => (intOf v).toNat
 | none => 0
theorem MkSt.mkAt {q base : Nat} {lo : Option Addr} {cap : Nat} {ls : List Ln} {w : World} {at_ : Nat} {v : Value} {ps : List (Stp × Value)} (h : MkSt q base lo cap ls w at_ v ps) : Go.Proofs.YtlbjjbolbopfmaaGreatDoor.mkAt q w = at_ := by
 unfold Go.Proofs.YtlbjjbolbopfmaaGreatDoor.mkAt
 rw [h.c2]; simp [intOf]
theorem MkSt.kind {q base : Nat} {b off : Nat} {cap : Nat} {ls : List Ln} {w : World} {at_ : Nat} {v : Value} {ps : List (Stp × Value)} (h : MkSt q base (some ⟨b, off, none⟩) cap ls w at_ v ps) (hl : at_ < ls.length) : w.cell? ⟨b, off + at_ * 5, none⟩ = some (.int .i64 ls[at_].1) ∧ b < w.heap.size := by
 obtain ⟨b', off', e, hB, aoA, capA, hcA, q0, _⟩ := h.linesW at_ hl
 cases e
 exact ⟨q0, hB⟩
theorem z_kn (m q base : Nat) (lo : Option Addr) (cap : Nat) (ls : List Ln) (hl : ls.length ≤ 60) (hl0 : 0 < ls.length) (HL : LnIH m q base lo cap ls) : z_no m q base lo cap ls := by
 intro t rest at_ ht hw hd hend w v ps hs hN
 have HLI : Hid (LnIH m q base lo cap ls) := HL
 clear HL
 have hfl : at_ + t.flat.length ≤ ls.length ∨ t.flat.length = 0 := by
  have h := congrArg List.length hd
  simp at h; omega
 obtain ⟨b, off, rfl, _⟩ := hs.linesW 0 hl0
 have HS : Hid (MkSt q base (some ⟨b, off, none⟩) cap ls w at_ v ps) := hs
 have hN2 : ps.length + t.flat.length ≤ 500 := by omega
 clear hs hN
 go_enter Tryz.func34, Tryz.ntmps34
 go_wp2_with fail
 go_loopw [] (fun wr => ∃ (t' : Bl) (at' : Nat) (qs : List (Stp × Value)) (v' : Value), Hid (MkSt q base (some ⟨b, off, none⟩) cap ls wr at' v' (ps ++ qs)) ∧ Hid (Wk q v.ownBlock w wr ∧ RowTo w v v') ∧ Hid (ls.drop at' = t'.flat ++ rest) ∧ Hid t'.wf ∧ t'.flat.length ≤ m ∧ at' + t'.flat.length = at_ + t.flat.length ∧ Hid (z_aM ps.length t = qs.map (·.1) ++ z_aM (ps.length + qs.length) t') ∧ ps.length + qs.length + t'.flat.length ≤ 500) (fun wr => ls.length + 1 - mkAt q wr)
 case atStart => exact ⟨t, at_, [], v, by rw [List.append_nil]; exact HS.out, ⟨Wk.refl, RowTo.refl⟩, hd, hw, ht, rfl, rfl, by simpa using hN2⟩
 case round =>
  obtain ⟨t', at', qs, v', HS1, HK1, HD1, HW1, htm, hsum, HC1, hlen⟩ := hrel
  have c1 := HS1.out.c1
  have c2 := HS1.out.c2
  have hqlt1 := HS1.out.lt
  cases hnode : z_aR t' with
  | false =>
   have ht' : t' = .nil := by cases t' <;> first | rfl | cases hnode
   subst ht'
   have hD : ls.drop at' = rest := by have := HD1.out; simpa [Bl.flat] using this
   have HR : Hid (qs.map (·.1) = z_aM ps.length t) := by have := HC1.out; simpa [z_aM, Hid] using this.symm
   have hat' : Hid (at' = at_ + t.flat.length) := by show _ = _; simpa [Bl.flat] using hsum
   rcases hend with rfl | ⟨c, r, rfl, hcl⟩
   ·have hge : ls.length ≤ at' := by
     rcases Nat.lt_or_ge at' ls.length with h | h
     ·have := congrArg List.length hD; simp at this; omega
     ·exact h
    have hge2 : ¬ (at' : Int) < ls.length := by omega
    have hge3 : decide (at' < ls.length) = false := decide_eq_false (by omega)
    have hge4 : decide ((at' : Int) < ls.length) = false := decide_eq_false (by omega)
    go_wp2_with fail
    go_quiet (fail)
    go_wp2_with fail
    go_end0
    refine ⟨rfl, v', qs, HR.out, ?_, HK1.out.1.trans (Wk.of_below (row := v'.ownBlock) (z_aa (Below.refl _ _) nq)) HK1.out.2.or, HK1.out.2⟩
    rw [← hat'.out]
    exact HS1.out.below (z_aa (Below.refl _ _) nq)
   ·obtain ⟨h1, h2, _⟩ := z_a2 hD
    obtain ⟨ck, hbq⟩ := HS1.out.kind h1
    rw [h2] at ck
    have h3 : (at' : Int) < ls.length := by omega
    go_wp2_with fail
    go_quiet ((go_at_call 74; exact Calls.quiet_of_same (z_bp _ _)))
    go_wp2_with fail
    go_end0
    refine ⟨rfl, v', qs, HR.out, ?_, HK1.out.1.trans (Wk.of_below (row := v'.ownBlock) (z_aa (Below.refl _ _) nq)) HK1.out.2.or, HK1.out.2⟩
    rw [← hat'.out]
    exact HS1.out.below (z_aa (Below.refl _ _) nq)
  | true =>
   obtain ⟨h1, h2⟩ := z_bX HD1.out hnode
   obtain ⟨ck, hbq⟩ := HS1.out.kind h1
   rw [h2] at ck
   have hnc := z_cL hnode HW1.out
   have h3 : (at' : Int) < ls.length := by omega
   go_wp2_with fail
   go_quiet ((go_at_call 74; exact Calls.quiet_of_same (z_bp _ _)))
   go_wp2_with fail
   have hlm := z_b7 t'
   refine (HLI.out t' rest at' htm hnode HW1.out HD1.out _ v' (ps ++ qs) (HS1.out.below (z_aa (Below.refl _ _) nq)) (by simp; omega)).mono ?_
   rintro e W2 ⟨rfl, v2, rs, hrs, h2', hk2, hr2⟩
   have hnl := z_hY (ps.length + qs.length) t' HW1.out
   rw [List.length_append] at hrs
   have hrs' : rs.map (·.1) = z_b2 (ps.length + qs.length) t' := hrs
   have h6 : rs.length = (z_b2 (ps.length + qs.length) t').length := by rw [← hrs']; simp
   have hrl : rs.length ≤ z_ai t' := by omega
   have HK2 : Hid (Wk q v.ownBlock w W2 ∧ RowTo w v v2) := ⟨(HK1.out.1.trans (Wk.of_below (row := v'.ownBlock) (z_aa (Below.refl _ _) nq)) HK1.out.2.or).trans hk2 HK1.out.2.or, HK1.out.2.trans hr2 (by have := HK1.out.1.size; simpa [World.drewN] using this)⟩
   rw [List.append_assoc] at h2'
   have HS2 : Hid (MkSt q base (some ⟨b, off, none⟩) cap ls W2 (at' + z_ai t') v2 (ps ++ (qs ++ rs))) := h2'
   have HC2 : Hid (z_aM ps.length t = (qs ++ rs).map (·.1) ++ z_aM (ps.length + (qs ++ rs).length) (z_aO t')) := by
    show _ = _
    have h5 := z_iD (ps.length + qs.length) t' hnode
    rw [HC1.out, h5, ← hrs', List.map_append, List.append_assoc, List.length_append, Nat.add_assoc, List.length_map]
   have HD2 : Hid (ls.drop (at' + z_ai t') = (z_aO t').flat ++ rest) := z_cK HD1.out
   have HW2 : Hid (z_aO t').wf := z_ed HW1.out
   have hpos : 1 ≤ z_ai t' := by cases t' <;> simp [z_ai, z_aR] at hnode ⊢
   have hm1 : mkAt q W2 = at' + z_ai t' := HS2.out.mkAt
   have hm0 : mkAt q wr = at' := HS1.out.mkAt
   have hqr : (qs ++ rs).length = qs.length + rs.length := by simp
   clear hk2 h2' hr2 hrs hrs' h6
   go_wp2
   go_roundw
   case rel => exact ⟨z_aO t', at' + z_ai t', qs ++ rs, v2, HS2, HK2, HD2, HW2, by omega, by omega, HC2, by omega⟩
   case measure => rw [hm1, hm0]; omega
theorem z_mX (q base : Nat) (lo : Option Addr) (cap : Nat) (ls : List Ln) (hl : ls.length ≤ 60) (hl0 : 0 < ls.length) (hz : ∀ l ∈ ls, LnSz l) : ∀ n, z_no n q base lo cap ls
 | 0 => z_kn 0 q base lo cap ls hl hl0 fun t rest at_ ht hn hw hd => by
   have := z_b7 t
   have : 1 ≤ z_ai t := by cases t <;> simp [z_ai, z_aR] at hn ⊢
   omega
 | n + 1 => z_kn (n + 1) q base lo cap ls hl hl0 fun t rest at_ ht hn hw hd => z_i1 n q base lo cap ls hl hz (z_mX q base lo cap ls hl hl0 hz n) t rest at_ ht hn hw hd
end
section
open Go.RowKit
theorem z_h0 {k : Int} {d : Bd} (h : z_br k d = true) : GoodD k d ∧ ∃ r, z_af k r = some d := by
 unfold z_br at h
 rw [Bool.and_eq_true] at h
 obtain ⟨_, h⟩ := h
 split at h
 ·cases h
 ·rename_i a r _
  split at h
  ·cases h
  ·rename_i d' hr
   have hs := h
   simp only [z_a0, Bool.and_eq_true, beq_iff_eq, decide_eq_true_eq, z_aI] at hs
   obtain ⟨⟨⟨⟨hk, h1⟩, h2⟩, h3⟩, h4⟩ := hs
   have e : d' = d := by cases d; cases d'; simp only at h1 h2 h3 h4; subst h1 h2 h3 h4; rfl
   rw [e, ← hk] at hr
   exact ⟨z_lW hr, r, hr⟩
theorem z_ld {k : Int} {d : Bd} {r : List ByteArray} (hk : z_a1 k = true) (h : z_af k r = some d) : d.to = eS := by
 unfold z_a1 at hk
 simp only [Bool.or_eq_true, beq_iff_eq] at hk
 have hn : ∀ {ws : List ByteArray}, pNext ws = some d → d.to = eS := fun {ws} hx => by
  rw [pNext.eq_def] at hx
  split at hx
  ·cases hx; rfl
  ·cases hx
 have ho : ∀ {ws : List ByteArray}, pOperand ws = some d → d.to = eS := fun {ws} hx => by
  rw [pOperand.eq_def] at hx
  split at hx
  ·exact hn hx
  ·cases hx
 rcases hk with (hk | hk) | hk
 ·subst hk; exact ho h
 ·subst hk; exact ho h
 ·subst hk; exact hn h
def z_nN (p : Nat) (lo : Option Addr) (cap : Nat) (ls : List Ln) (at2 : Nat) (w : World) (res : Option (List ByteArray × Bool)) (e : Ending) (w' : World) : Prop :=
 w.grownBy w' (some p) ∧ match res with
  | none => ∃ (vo : Option Addr) (vn vc : Nat) (y : Bool) (a ln fc : Int), e = .returned (.tuple #[.slice vo vn vc, .bool y]) ∧ CObj w' p (.slice lo ls.length cap) a ln fc ∧ (fc == 0) = false
  | some (ks, live) => ∃ (ko : Option Addr) (ck : Nat) (ln : Int), e = .returned (.tuple #[.slice ko ks.length ck, .bool live]) ∧ CObj w' p (.slice lo ls.length cap) at2 ln 0 ∧ StrsAt (p + 1) w'.heap.size w' ko ks
def z_d7 (p : Nat) (lo : Option Addr) (cap : Nat) (ls : List Ln) (at_ at2 : Nat) (br : Bool) (ks : List ByteArray) (res : Option (List ByteArray × Bool)) : Prop :=
 ∀ (w : World) (ko : Option Addr) (ck : Nat) (ln : Int), CObj w p (.slice lo ls.length cap) at_ ln 0 → LinesAt p w lo ls → StrsAt (p + 1) w.heap.size w ko ks →
  Calls Tryz.prog 67 #[.pointer (some ⟨p, 0, none⟩), .slice ko ks.length ck, .bool br] w (z_nN p lo cap ls at2 w res)
def CkInn (p : Nat) (lo : Option Addr) (cap : Nat) (ls : List Ln) (at_ at2 : Nat) (k : Int) (br : Bool) (ks : List ByteArray) (res : Option (List ByteArray × Bool)) : Prop :=
 ∀ (w : World) (ko : Option Addr) (ck : Nat) (ln : Int), CObj w p (.slice lo ls.length cap) at_ ln 0 → LinesAt p w lo ls → StrsAt (p + 1) w.heap.size w ko ks →
  Calls Tryz.prog 103 #[.pointer (some ⟨p, 0, none⟩), .int .i64 k, .slice ko ks.length ck, .bool br] w (z_nN p lo cap ls at2 w res)
section
variable {p : Nat} {lo ko : Option Addr} {cap : Nat} {ls : List Ln} {ks : List ByteArray} {w w' w'' : World} {L : Value} {a ln fc : Int}
theorem z_cp (h : w.grownBy w' (some p)) (hp : p < w.heap.size) : Below p w w' := z_dr h (Nat.le_of_lt hp) (fun k hk => by cases hk; exact Nat.le_refl _)
theorem z_ba (h : StrsAt (p + 1) w.heap.size w ko ks) (hg : w.grownBy w' (some p)) : StrsAt (p + 1) w'.heap.size w' ko ks :=
 (h.grown hg (Nat.le_refl _) (fun j hj => by cases hj; left; exact Nat.lt_succ_self _)).mono (Nat.le_refl _) hg.size
theorem z_aW (h : w.grownBy w' (some p)) (hb : Below w'.heap.size w' w'') : w.grownBy w'' (some p) := z_ah h (z_bt (row := some p) hb) (.inl rfl)
theorem z_a9 (h : w.grownBy w' (some p)) (j : Nat) (u : Value) : w.grownBy (w'.setCell ⟨p, j, none⟩ u) (some p) := z_ah h (z_aj p j u) (.inl rfl)
end
theorem z_fp (p : Nat) (L : Value) (a ln fc : Int) (vo : Option Addr) (vn vc : Nat) (br : Bool) (w : World) (hc : CObj w p L a ln fc) (hf : (fc == 0) = false) :
  Calls Tryz.prog 67 #[.pointer (some ⟨p, 0, none⟩), .slice vo vn vc, .bool br] w fun e w' => e = .returned (.tuple #[.slice vo vn vc, .bool true]) ∧ ∃ n, w' = w.drewN n := by
 have c3 := hc.c3
 have hlt := hc.lt
 clear hc
 go_enter Tryz.func67, Tryz.ntmps67
 go_wp2_with fail
 go_loopw [1, 8] (fun x y wr => x = .slice vo vn vc ∧ y = .bool true ∧ wr = w) (fun _ _ _ => 0)
 case atStart => exact ⟨rfl, rfl, rfl⟩
 case round =>
  obtain ⟨rfl, rfl, rfl⟩ := hrel
  go_wp2_with fail
  go_quiet (fail)
  go_wp2_with fail
  go_ret2
  exact ⟨rfl, _, rfl⟩
theorem z_lS (p : Nat) (L : Value) (a : Nat) (ln fc : Int) (k : Int) (vo : Option Addr) (vn vc : Nat) (br : Bool) (w : World) (hc : CObj w p L a ln fc) (ha : a ≤ 1000) (hf : (fc == 0) = false) :
  Calls Tryz.prog 103 #[.pointer (some ⟨p, 0, none⟩), .int .i64 k, .slice vo vn vc, .bool br] w fun e w' => e = .returned (.tuple #[.slice vo vn vc, .bool true]) ∧ CObj w' p L ((a : Int) + 1) ln fc ∧ w.grownBy w' (some p) := by
 have HC : Hid (CObj (w.setCell ⟨p, 1, none⟩ (.int .i64 ((a : Int) + 1))) p L ((a : Int) + 1) ln fc) := hc.at _
 have c1 := hc.c1
 have c3 := hc.c3
 have f1 := hc.fz 1
 have hlt := hc.lt
 have hf2 : (fc != 0) = true := by rw [bne, hf]; rfl
 clear hc
 cases hb : br with
 | true =>
  go_enter Tryz.func103, Tryz.ntmps103
  go_wp2_with (go_at_call 67; refine (z_fp p L _ ln fc vo vn vc true _ HC.out hf).mono ?_; rintro e w2 ⟨rfl, n, rfl⟩)
  go_quiet (fail)
  go_wp2_with fail
  go_ret2
  exact ⟨rfl, HC.out.below (z_aa (Below.refl _ _) _), z_aW (z_aj p 1 _) (z_aa (Below.refl _ _) _)⟩
 | false =>
  cases h9 : (k == 9) with
  | true =>
   go_enter Tryz.func103, Tryz.ntmps103
   go_wp2_with (go_at_call 67; refine (z_fp p L _ ln fc vo vn vc true _ HC.out hf).mono ?_; rintro e w2 ⟨rfl, n, rfl⟩)
   go_quiet (fail)
   go_wp2_with fail
   go_ret2
   exact ⟨rfl, HC.out.below (z_aa (Below.refl _ _) _), z_aW (z_aj p 1 _) (z_aa (Below.refl _ _) _)⟩
  | false =>
   go_enter Tryz.func103, Tryz.ntmps103
   go_wp2_with (go_at_call 67; refine (z_fp p L _ ln fc vo vn vc false _ HC.out hf).mono ?_; rintro e w2 ⟨rfl, n, rfl⟩)
   go_quiet (fail)
   go_wp2_with fail
   go_ret2
   exact ⟨rfl, HC.out.below (z_aa (Below.refl _ _) _), z_aW (z_aj p 1 _) (z_aa (Below.refl _ _) _)⟩
end
end Go.Proofs.YtlbjjbolbopfmaaGreatDoor
