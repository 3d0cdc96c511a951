import Derived.Test.YtlbjjbolbopfmaaGreatDoorJ26
namespace Go.Proofs.YtlbjjbolbopfmaaGreatDoor
set_option maxHeartbeats 8000000
set_option maxRecDepth 1000000
set_option linter.unusedVariables false
section
open Go.RowKit
theorem MkSt.linesW {q base : Nat} {lo : Option Addr} {cap : Nat} {ls : List Ln} {w : World} {at_ : Nat} {v : Value} {ps : List (Stp × Value)} (h : MkSt q base lo cap ls w at_ v ps) : LinesAt w.heap.size w lo ls := h.lines.mono (Nat.le_of_lt h.lt)
theorem z_g5 (q base : Nat) (lo : Option Addr) (cap : Nat) (ls : List Ln) (at_ : Nat) (hl : ls.length ≤ 60) (hat : at_ < ls.length) (h7 : (ls[at_].1 == 7) = false) :
  z_dk q base lo cap ls 111 at_ at_ 1000 (fun _ => #[]) 0 (fun _ _ => []) := by
 intro w v ps x qs nb na hs hf hN
 show Calls Tryz.prog 111 #[.pointer (some ⟨q, 0, none⟩), .func (.func 147) #[] #[.pointer (some ⟨nb, 0, none⟩), .pointer (some ⟨na, 0, none⟩)]] w _
 have HS : Hid (MkSt q base lo cap ls w at_ v (ps ++ x :: qs)) := hs
 have HF : Hid (FillB q w nb na ps.length) := hf
 obtain ⟨n, hn0⟩ : ∃ n, n = ps.length + 1 + qs.length := ⟨_, rfl⟩
 have hn : Hid (n = ps.length + 1 + qs.length) := hn0
 have hnb : n ≤ 1001 := by omega
 have hn2 : Hid ((ps ++ x :: qs).length = n) := by show _ = _; have := hn.out; simp; omega
 obtain ⟨b, off, rfl, hB, aoA, capA, hcA, q0, q1, q2, q3, q4, hA⟩ := hs.linesW at_ hat
 obtain ⟨k, hk⟩ : ∃ k, k = ls[at_].1 := ⟨_, rfl⟩
 rw [← hk] at q0 h7
 clear hA q1 q2 q3 q4 hk
 have c1 := hs.c1
 have c2 := hs.c2
 have hqlt := hs.lt
 clear hs hf hn0
 go_enter Tryz.func111, Tryz.ntmps111
 go_wp2
 go_region
 all_goals
  go_wp2_with fail
  have hs1 : MkSt q base (some ⟨b, off, none⟩) cap ls w.drew at_ v (ps ++ x :: qs) := HS.out.below (Below.refl _ _).drew
  have hf1 : FillB q w.drew nb na ps.length := HF.out.below (Below.refl _ _).drew
  refine (z_cz q base _ cap ls at_ v _ n _ hs1 hn2.out (by omega)).mono ?_
  rintro e wx ⟨rfl, rfl⟩
  go_wp2_with fail
  refine (z_dR q base _ cap ls at_ v ps qs x nb na n _ hs1 hf1 (by simp; omega)).mono ?_
  rintro e w2 ⟨rfl, h2, hk2⟩
  have HE : Hid (MkSt q base (some ⟨b, off, none⟩) cap ls w2 at_ v (ps ++ (setB x.1 (n : Int), x.2) :: qs) ∧ Wk q v.ownBlock w w2) := ⟨h2, (Wk.of_below (row := v.ownBlock) (Below.refl _ _).drew).trans hk2 (.inl rfl)⟩
  clear h2 hk2 hs1 hf1
  go_wp2
  go_end0
  refine ⟨rfl, v, [], rfl, ?_, HE.out.2, RowTo.refl⟩
  have := HE.out.1
  rw [hn.out] at this
  simpa using this
theorem z_m9 (q base : Nat) (lo : Option Addr) (cap : Nat) (ls : List Ln) (at_ : Nat) :
  z_dk q base lo cap ls 112 at_ at_ 1000 (fun i => #[.int .i64 i]) 1 (fun i n => [z_ap 7 i]) := by
 intro w v ps x qs nb na hs hf hN
 show Calls Tryz.prog 112 #[.pointer (some ⟨q, 0, none⟩), .int .i64 ps.length, .func (.func 147) #[] #[.pointer (some ⟨nb, 0, none⟩), .pointer (some ⟨na, 0, none⟩)]] w _
 have HS : Hid (MkSt q base lo cap ls w at_ v (ps ++ x :: qs)) := hs
 have HF : Hid (FillB q w nb na ps.length) := hf
 obtain ⟨n, hn0⟩ : ∃ n, n = ps.length + 1 + qs.length := ⟨_, rfl⟩
 have hn : Hid (n = ps.length + 1 + qs.length) := hn0
 have hnb : n ≤ 1001 := by omega
 have hn2 : Hid ((ps ++ x :: qs).length = n) := by show _ = _; have := hn.out; simp; omega
 obtain ⟨i, hi0⟩ : ∃ i, i = ps.length := ⟨_, rfl⟩
 rw [← hi0]
 have hi : Hid (i = ps.length) := hi0
 clear hi0
 have hqlt := hs.lt
 clear hs hf hn0
 go_enter Tryz.func112, Tryz.ntmps112
 go_wp2_with fail
 refine (z_eG q base lo cap ls at_ v _ 7 w HS.out (by simp; omega)).mono ?_
 rintro e w1 ⟨v1, nb1, na1, rfl, h1, hk1, hr1, hf1⟩
 rw [hn2.out] at hf1
 have HF1 : Hid (FillB q w1 nb1 na1 n) := hf1
 have HFo : Hid (FillB q w1 nb na ps.length) := HF.out.keep HS.out hk1
 have HS1 : Hid (MkSt q base lo cap ls w1 at_ v1 ((ps ++ x :: qs) ++ [(z_ap 7 0, .slice none 0 0)])) := h1
 have HK1 : Hid (Wk q v.ownBlock w w1 ∧ RowTo w v v1) := ⟨hk1, hr1⟩
 clear h1 hk1 hr1 hf1
 go_wp2_with fail
 refine (z_co q base lo cap ls at_ v1 (ps ++ x :: qs) [] (z_ap 7 0, .slice none 0 0) nb1 na1 i w1 HS1.out (by rw [hn2.out]; exact HF1.out) (by simp; omega)).mono ?_
 rintro e w2 ⟨rfl, h2, hk2⟩
 have e2 : (ps ++ x :: qs) ++ [(setA (z_ap 7 0) (i : Int), .slice none 0 0)] = ps ++ x :: (qs ++ [(z_ap 7 (i : Int), .slice none 0 0)]) := by simp [setA, z_ap]
 rw [e2] at h2
 have HS2 : Hid (MkSt q base lo cap ls w2 at_ v1 (ps ++ x :: (qs ++ [(z_ap 7 (i : Int), .slice none 0 0)]))) := h2
 have HF2 : Hid (FillB q w2 nb na ps.length) := HFo.out.keep HS1.out hk2
 have HK2 : Hid (Wk q v.ownBlock w w2) := HK1.out.1.trans hk2 HK1.out.2.or
 have hn3 : Hid ((ps ++ x :: (qs ++ [(z_ap 7 (i : Int), Value.slice none 0 0)])).length = n + 1) := by show _ = _; have := hn.out; simp; omega
 clear h2 hk2
 go_wp2_with fail
 refine (z_cz q base lo cap ls at_ v1 _ (n + 1) _ HS2.out hn3.out (by omega)).mono ?_
 rintro e wx ⟨rfl, rfl⟩
 go_wp2_with fail
 refine (z_dR q base lo cap ls at_ v1 ps _ x nb na (n + 1 : Nat) _ HS2.out HF2.out (by simp; omega)).mono ?_
 rintro e w3 ⟨rfl, h3, hk3⟩
 have HE : Hid (MkSt q base lo cap ls w3 at_ v1 (ps ++ (setB x.1 ((n + 1 : Nat) : Int), x.2) :: (qs ++ [(z_ap 7 (i : Int), .slice none 0 0)])) ∧ Wk q v.ownBlock w w3) := ⟨h3, HK2.out.trans hk3 HK1.out.2.or⟩
 clear h3 hk3
 go_wp2
 go_end0
 refine ⟨rfl, v1, [(z_ap 7 (i : Int), .slice none 0 0)], by have := hi.out; simp [this], ?_, HE.out.2, HK1.out.2⟩
 have := HE.out.1
 rw [hn.out] at this
 exact this
end
section
open Go.RowKit
theorem z_gV (q base : Nat) (lo : Option Addr) (cap : Nat) (ls : List Ln) (at_ at2 : Nat) (f : Nat → List Stp) (hl : ls.length ≤ 60) (hat : at_ < ls.length) (h7 : ls[at_].1 = 7) (NT NI : Nat) (hNT : NT ≤ 1000) (hNI : NT + 2 ≤ NI) (hfl : ∀ n, (f n).length ≤ 1000) (H : BlkOK q base lo cap ls 109 at_ at2 NI f) :
  z_dk q base lo cap ls 111 at_ at2 NT (fun _ => #[]) 1 (fun _ n => z_ap 7 ((n + 1 + (f (n + 1)).length : Nat) : Int) :: f (n + 1)) := by
 intro w v ps x qs nb na hs hf hN
 show Calls Tryz.prog 111 #[.pointer (some ⟨q, 0, none⟩), .func (.func 147) #[] #[.pointer (some ⟨nb, 0, none⟩), .pointer (some ⟨na, 0, none⟩)]] w _
 have HH : Hid (BlkOK q base lo cap ls 109 at_ at2 NI f) := H
 have HS : Hid (MkSt q base lo cap ls w at_ v (ps ++ x :: qs)) := hs
 have HF : Hid (FillB q w nb na ps.length) := hf
 obtain ⟨n, hn0⟩ : ∃ n, n = ps.length + 1 + qs.length := ⟨_, rfl⟩
 have hn : Hid (n = ps.length + 1 + qs.length) := hn0
 have hnb : n ≤ 1001 := by omega
 have hnb2 : n ≤ NT + 1 := by omega
 have hn2 : Hid ((ps ++ x :: qs).length = n) := by show _ = _; have := hn.out; simp; omega
 have HFL : Hid ((f (n + 1)).length ≤ 1000) := hfl _
 obtain ⟨b, off, rfl, hB, aoA, capA, hcA, q0, q1, q2, q3, q4, hA⟩ := hs.linesW at_ hat
 rw [h7] at q0
 clear hA q1 q2 q3 q4 h7 H hfl
 have c1 := hs.c1
 have c2 := hs.c2
 have hqlt := hs.lt
 clear hs hf hn0
 go_enter Tryz.func111, Tryz.ntmps111
 go_wp2
 go_region
 all_goals
  go_wp2_with fail
  have HS0 : Hid (MkSt q base (some ⟨b, off, none⟩) cap ls w.drew at_ v (ps ++ x :: qs)) := HS.out.below (Below.refl _ _).drew
  have HF0 : Hid (FillB q w.drew nb na ps.length) := HF.out.below (Below.refl _ _).drew
  refine (z_eG q base _ cap ls at_ v _ 7 _ HS0.out (by simp; omega)).mono ?_
  rintro e w1 ⟨v1, nb1, na1, rfl, h1, hk1, hr1, hf1⟩
  rw [hn2.out] at hf1
  have HF1 : Hid (FillB q w1 nb1 na1 n) := hf1
  have HFo : Hid (FillB q w1 nb na ps.length) := HF0.out.keep HS0.out hk1
  have e1 : (ps ++ x :: qs) ++ [(z_ap 7 0, Value.slice none 0 0)] = ps ++ x :: (qs ++ [(z_ap 7 0, .slice none 0 0)]) := by simp
  rw [e1] at h1
  have HS1 : Hid (MkSt q base (some ⟨b, off, none⟩) cap ls w1 at_ v1 (ps ++ x :: (qs ++ [(z_ap 7 0, .slice none 0 0)]))) := h1
  have HK1 : Hid (Wk q v.ownBlock w w1 ∧ RowTo w v v1) := ⟨(Wk.of_below (row := v.ownBlock) (Below.refl _ _).drew).trans hk1 (.inl rfl), hr1⟩
  have hn3 : Hid ((ps ++ x :: (qs ++ [(z_ap 7 0, Value.slice none 0 0)])).length = n + 1) := by show _ = _; have := hn.out; simp; omega
  clear h1 hk1 hr1 hf1
  go_wp2_with fail
  refine (z_cz q base _ cap ls at_ v1 _ (n + 1) _ HS1.out hn3.out (by omega)).mono ?_
  rintro e wx ⟨rfl, rfl⟩
  go_wp2_with fail
  refine (z_dR q base _ cap ls at_ v1 ps _ x nb na (n + 1 : Nat) _ HS1.out HFo.out (by simp; omega)).mono ?_
  rintro e w2 ⟨rfl, h2, hk2⟩
  have HF2 : Hid (FillB q w2 nb1 na1 n) := HF1.out.keep HS1.out hk2
  have HS2 : Hid (MkSt q base (some ⟨b, off, none⟩) cap ls w2 at_ v1 (ps ++ (setB x.1 ((n + 1 : Nat) : Int), x.2) :: (qs ++ [(z_ap 7 0, .slice none 0 0)]))) := h2
  have HK2 : Hid (Wk q v.ownBlock w w2 ∧ RowTo w v v1) := ⟨HK1.out.1.trans hk2 HK1.out.2.or, HK1.out.2⟩
  have hn4 : Hid ((ps ++ (setB x.1 ((n + 1 : Nat) : Int), x.2) :: (qs ++ [(z_ap 7 0, Value.slice none 0 0)])).length = n + 1) := by show _ = _; have := hn.out; simp; omega
  clear h2 hk2
  go_wp2_with fail
  refine (HH.out w2 v1 _ HS2.out (by rw [hn4.out]; omega)).mono ?_
  rintro e w3 ⟨rfl, v3, rs, hrs, h3, hk3, hr3⟩
  rw [hn4.out] at hrs
  have hrl : rs.length = (f (n + 1)).length := by rw [← hrs]; simp
  have HRS : Hid (rs.map (·.1) = f (n + 1)) := hrs
  have HRL : Hid (rs.length = (f (n + 1)).length) := hrl
  have hrl2 : rs.length ≤ 1000 := by rw [hrl]; exact HFL.out
  have HF3 : Hid (FillB q w3 nb1 na1 n) := HF2.out.keep HS2.out hk3
  have e3 : (ps ++ (setB x.1 ((n + 1 : Nat) : Int), x.2) :: (qs ++ [(z_ap 7 0, Value.slice none 0 0)])) ++ rs = (ps ++ (setB x.1 ((n + 1 : Nat) : Int), x.2) :: qs) ++ (z_ap 7 0, .slice none 0 0) :: rs := by simp
  rw [e3] at h3
  have HS3 : Hid (MkSt q base (some ⟨b, off, none⟩) cap ls w3 at2 v3 ((ps ++ (setB x.1 ((n + 1 : Nat) : Int), x.2) :: qs) ++ (z_ap 7 0, .slice none 0 0) :: rs)) := h3
  have HK3 : Hid (Wk q v.ownBlock w w3 ∧ RowTo w v v3) := ⟨HK2.out.1.trans hk3 HK2.out.2.or, HK2.out.2.trans hr3 HK2.out.1.size⟩
  obtain ⟨n3, hn3e⟩ : ∃ n3, n3 = n + 1 + rs.length := ⟨_, rfl⟩
  have hn3b : n3 ≤ 3000 := by have := HFL.out; omega
  have HN3 : Hid (n3 = n + 1 + rs.length) := hn3e
  have hn5 : Hid (((ps ++ (setB x.1 ((n + 1 : Nat) : Int), x.2) :: qs) ++ (z_ap 7 0, Value.slice none 0 0) :: rs).length = n3) := by show _ = _; have := hn.out; have := HN3.out; simp; omega
  have hn6 : Hid ((ps ++ (setB x.1 ((n + 1 : Nat) : Int), x.2) :: qs).length = n) := by show _ = _; have := hn.out; simp; omega
  clear h3 hk3 hr3 hrs hn3e hrl
  go_wp2_with fail
  refine (z_cz q base _ cap ls at2 v3 _ n3 _ HS3.out hn5.out (by omega)).mono ?_
  rintro e wx ⟨rfl, rfl⟩
  go_wp2_with fail
  refine (z_co q base _ cap ls at2 v3 _ rs (z_ap 7 0, .slice none 0 0) nb1 na1 n3 _ HS3.out (by rw [hn6.out]; exact HF3.out) (by simp; omega)).mono ?_
  rintro e w4 ⟨rfl, h4, hk4⟩
  have HE : Hid (MkSt q base (some ⟨b, off, none⟩) cap ls w4 at2 v3 ((ps ++ (setB x.1 ((n + 1 : Nat) : Int), x.2) :: qs) ++ (setA (z_ap 7 0) (n3 : Int), .slice none 0 0) :: rs) ∧ Wk q v.ownBlock w w4 ∧ RowTo w v v3) := ⟨h4, HK3.out.1.trans hk4 HK3.out.2.or, HK3.out.2⟩
  clear h4 hk4
  go_wp2
  go_end0
  refine ⟨rfl, v3, (z_ap 7 (n3 : Int), .slice none 0 0) :: rs, ?_, ?_, HE.out.2⟩
  ·show z_ap 7 _ :: rs.map (·.1) = _
   rw [HRS.out, ← hn.out, HN3.out, HRL.out]
  ·have h := HE.out.1
   rw [List.append_assoc] at h
   rw [← hn.out]
   exact h
end
section
open Go.RowKit
theorem z_nb (q base : Nat) (lo : Option Addr) (cap : Nat) (ls : List Ln) (at_ at2 : Nat) (f : Nat → List Stp) (NT NI : Nat) (hNT : NT ≤ 1000) (hNI : NT + 2 ≤ NI) (hfl : ∀ n, (f n).length ≤ 1000) (H : BlkOK q base lo cap ls 109 at_ at2 NI f) :
  z_dk q base lo cap ls 113 at_ at2 NT (fun _ => #[]) 1 (fun _ n => z_ap 9 ((n + 2 + (f (n + 1)).length : Nat) : Int) :: (f (n + 1) ++ [z_ap 9 ((n + 2 + (f (n + 1)).length : Nat) : Int)])) := by
 intro w v ps x qs nb na hs hf hN
 show Calls Tryz.prog 113 #[.pointer (some ⟨q, 0, none⟩), .func (.func 147) #[] #[.pointer (some ⟨nb, 0, none⟩), .pointer (some ⟨na, 0, none⟩)]] w _
 have HH : Hid (BlkOK q base lo cap ls 109 at_ at2 NI f) := H
 have HS : Hid (MkSt q base lo cap ls w at_ v (ps ++ x :: qs)) := hs
 have HF : Hid (FillB q w nb na ps.length) := hf
 obtain ⟨n, hn0⟩ : ∃ n, n = ps.length + 1 + qs.length := ⟨_, rfl⟩
 have hn : Hid (n = ps.length + 1 + qs.length) := hn0
 have hnb : n ≤ 1001 := by omega
 have hnb2 : n ≤ NT + 1 := by omega
 have hn2 : Hid ((ps ++ x :: qs).length = n) := by show _ = _; have := hn.out; simp; omega
 have HFL : Hid ((f (n + 1)).length ≤ 1000) := hfl _
 have hqlt := hs.lt
 clear hs hf H hfl hn0
 go_enter Tryz.func113, Tryz.ntmps113
 go_wp2_with fail
 refine (z_eG q base _ cap ls at_ v _ 9 _ HS.out (by simp; omega)).mono ?_
 rintro e w1 ⟨v1, nb1, na1, rfl, h1, hk1, hr1, hf1⟩
 rw [hn2.out] at hf1
 have HF1 : Hid (FillB q w1 nb1 na1 n) := hf1
 have HFo : Hid (FillB q w1 nb na ps.length) := HF.out.keep HS.out hk1
 have e1 : (ps ++ x :: qs) ++ [(z_ap 9 0, Value.slice none 0 0)] = ps ++ x :: (qs ++ [(z_ap 9 0, .slice none 0 0)]) := by simp
 rw [e1] at h1
 have HS1 : Hid (MkSt q base lo cap ls w1 at_ v1 (ps ++ x :: (qs ++ [(z_ap 9 0, .slice none 0 0)]))) := h1
 have HK1 : Hid (Wk q v.ownBlock w w1 ∧ RowTo w v v1) := ⟨hk1, hr1⟩
 have hn3 : Hid ((ps ++ x :: (qs ++ [(z_ap 9 0, Value.slice none 0 0)])).length = n + 1) := by show _ = _; have := hn.out; simp; omega
 clear h1 hk1 hr1 hf1
 go_wp2_with fail
 refine (z_cz q base _ cap ls at_ v1 _ (n + 1) _ HS1.out hn3.out (by omega)).mono ?_
 rintro e wx ⟨rfl, rfl⟩
 go_wp2_with fail
 refine (z_dR q base _ cap ls at_ v1 ps _ x nb na (n + 1 : Nat) _ HS1.out HFo.out (by simp; omega)).mono ?_
 rintro e w2 ⟨rfl, h2, hk2⟩
 have HF2 : Hid (FillB q w2 nb1 na1 n) := HF1.out.keep HS1.out hk2
 have HS2 : Hid (MkSt q base lo cap ls w2 at_ v1 (ps ++ (setB x.1 ((n + 1 : Nat) : Int), x.2) :: (qs ++ [(z_ap 9 0, .slice none 0 0)]))) := h2
 have HK2 : Hid (Wk q v.ownBlock w w2 ∧ RowTo w v v1) := ⟨HK1.out.1.trans hk2 HK1.out.2.or, HK1.out.2⟩
 have hn4 : Hid ((ps ++ (setB x.1 ((n + 1 : Nat) : Int), x.2) :: (qs ++ [(z_ap 9 0, Value.slice none 0 0)])).length = n + 1) := by show _ = _; have := hn.out; simp; omega
 clear h2 hk2
 go_wp2_with fail
 refine (HH.out w2 v1 _ HS2.out (by rw [hn4.out]; omega)).mono ?_
 rintro e w3 ⟨rfl, v3, rs, hrs, h3, hk3, hr3⟩
 rw [hn4.out] at hrs
 have hrl : rs.length = (f (n + 1)).length := by rw [← hrs]; simp
 have HRS : Hid (rs.map (·.1) = f (n + 1)) := hrs
 have HRL : Hid (rs.length = (f (n + 1)).length) := hrl
 have hrl2 : rs.length ≤ 1000 := by rw [hrl]; exact HFL.out
 obtain ⟨n3, hn3e⟩ : ∃ n3, n3 = n + 2 + rs.length := ⟨_, rfl⟩
 have hn3b : n3 ≤ 3000 := by omega
 have HN3 : Hid (n3 = n + 2 + rs.length) := hn3e
 obtain ⟨n4, hn4e⟩ : ∃ n4, n4 = n + 1 + rs.length := ⟨_, rfl⟩
 have HN4 : Hid (n4 = n + 1 + rs.length) := hn4e
 have HF3 : Hid (FillB q w3 nb1 na1 n) := HF2.out.keep HS2.out hk3
 have HS3 : Hid (MkSt q base lo cap ls w3 at2 v3 ((ps ++ (setB x.1 ((n + 1 : Nat) : Int), x.2) :: (qs ++ [(z_ap 9 0, Value.slice none 0 0)])) ++ rs)) := h3
 have HK3 : Hid (Wk q v.ownBlock w w3 ∧ RowTo w v v3) := ⟨HK2.out.1.trans hk3 HK2.out.2.or, HK2.out.2.trans hr3 HK2.out.1.size⟩
 have hn5 : Hid (((ps ++ (setB x.1 ((n + 1 : Nat) : Int), x.2) :: (qs ++ [(z_ap 9 0, Value.slice none 0 0)])) ++ rs).length = n4) := by show _ = _; have := hn.out; have := HN4.out; simp; omega
 clear h3 hk3 hr3 hrs hrl hn3e hn4e
 go_wp2_with fail
 refine (z_eG q base _ cap ls at2 v3 _ 9 _ HS3.out (by simp; omega)).mono ?_
 rintro e w4 ⟨v4, nb2, na2, rfl, h4, hk4, hr4, hf4⟩
 rw [hn5.out] at hf4
 have HF4 : Hid (FillB q w4 nb2 na2 n4) := hf4
 have HF5 : Hid (FillB q w4 nb1 na1 n) := HF3.out.keep HS3.out hk4
 have e4 : ((ps ++ (setB x.1 ((n + 1 : Nat) : Int), x.2) :: (qs ++ [(z_ap 9 0, Value.slice none 0 0)])) ++ rs) ++ [(z_ap 9 0, Value.slice none 0 0)] = (ps ++ (setB x.1 ((n + 1 : Nat) : Int), x.2) :: qs) ++ (z_ap 9 0, .slice none 0 0) :: (rs ++ [(z_ap 9 0, .slice none 0 0)]) := by simp
 rw [e4] at h4
 have HS4 : Hid (MkSt q base lo cap ls w4 at2 v4 ((ps ++ (setB x.1 ((n + 1 : Nat) : Int), x.2) :: qs) ++ (z_ap 9 0, .slice none 0 0) :: (rs ++ [(z_ap 9 0, .slice none 0 0)]))) := h4
 have HK4 : Hid (Wk q v.ownBlock w w4 ∧ RowTo w v v4) := ⟨HK3.out.1.trans hk4 HK3.out.2.or, HK3.out.2.trans hr4 HK3.out.1.size⟩
 have hn6 : Hid ((ps ++ (setB x.1 ((n + 1 : Nat) : Int), x.2) :: qs).length = n) := by show _ = _; have := hn.out; simp; omega
 have hn7 : Hid (((ps ++ (setB x.1 ((n + 1 : Nat) : Int), x.2) :: qs) ++ (z_ap 9 0, Value.slice none 0 0) :: (rs ++ [(z_ap 9 0, .slice none 0 0)])).length = n3) := by show _ = _; have := hn.out; have := HN3.out; simp; omega
 clear h4 hk4 hr4 hf4
 go_wp2_with fail
 refine (z_cz q base _ cap ls at2 v4 _ n3 _ HS4.out hn7.out (by omega)).mono ?_
 rintro e wx ⟨rfl, rfl⟩
 go_wp2_with fail
 refine (z_co q base _ cap ls at2 v4 _ _ (z_ap 9 0, .slice none 0 0) nb1 na1 n3 _ HS4.out (by rw [hn6.out]; exact HF5.out) (by simp; omega)).mono ?_
 rintro e w5 ⟨rfl, h5, hk5⟩
 have HF6 : Hid (FillB q w5 nb2 na2 n4) := HF4.out.keep HS4.out hk5
 have e5 : (ps ++ (setB x.1 ((n + 1 : Nat) : Int), x.2) :: qs) ++ (setA (z_ap 9 0) (n3 : Int), Value.slice none 0 0) :: (rs ++ [(z_ap 9 0, Value.slice none 0 0)]) = (ps ++ (setB x.1 ((n + 1 : Nat) : Int), x.2) :: (qs ++ (z_ap 9 (n3 : Int), .slice none 0 0) :: rs)) ++ (z_ap 9 0, .slice none 0 0) :: [] := by simp [setA, z_ap]
 rw [e5] at h5
 have HS5 : Hid (MkSt q base lo cap ls w5 at2 v4 ((ps ++ (setB x.1 ((n + 1 : Nat) : Int), x.2) :: (qs ++ (z_ap 9 (n3 : Int), .slice none 0 0) :: rs)) ++ (z_ap 9 0, .slice none 0 0) :: [])) := h5
 have HK5 : Hid (Wk q v.ownBlock w w5 ∧ RowTo w v v4) := ⟨HK4.out.1.trans hk5 HK4.out.2.or, HK4.out.2⟩
 have hn8 : Hid ((ps ++ (setB x.1 ((n + 1 : Nat) : Int), x.2) :: (qs ++ (z_ap 9 (n3 : Int), Value.slice none 0 0) :: rs)).length = n4) := by show _ = _; have := hn.out; have := HN4.out; simp; omega
 have hn9 : Hid (((ps ++ (setB x.1 ((n + 1 : Nat) : Int), x.2) :: (qs ++ (z_ap 9 (n3 : Int), Value.slice none 0 0) :: rs)) ++ (z_ap 9 0, Value.slice none 0 0) :: []).length = n3) := by show _ = _; have := hn.out; have := HN3.out; simp; omega
 clear h5 hk5
 go_wp2_with fail
 refine (z_cz q base _ cap ls at2 v4 _ n3 _ HS5.out hn9.out (by omega)).mono ?_
 rintro e wx ⟨rfl, rfl⟩
 go_wp2_with fail
 refine (z_co q base _ cap ls at2 v4 _ [] (z_ap 9 0, .slice none 0 0) nb2 na2 n3 _ HS5.out (by rw [hn8.out]; exact HF6.out) (by simp; omega)).mono ?_
 rintro e w6 ⟨rfl, h6, hk6⟩
 have e6 : (ps ++ (setB x.1 ((n + 1 : Nat) : Int), x.2) :: (qs ++ (z_ap 9 (n3 : Int), Value.slice none 0 0) :: rs)) ++ (setA (z_ap 9 0) (n3 : Int), Value.slice none 0 0) :: [] = ps ++ (setB x.1 ((n + 1 : Nat) : Int), x.2) :: (qs ++ ((z_ap 9 (n3 : Int), .slice none 0 0) :: (rs ++ [(z_ap 9 (n3 : Int), .slice none 0 0)]))) := by simp [setA, z_ap]
 rw [e6] at h6
 have HE : Hid (MkSt q base lo cap ls w6 at2 v4 (ps ++ (setB x.1 ((n + 1 : Nat) : Int), x.2) :: (qs ++ ((z_ap 9 (n3 : Int), .slice none 0 0) :: (rs ++ [(z_ap 9 (n3 : Int), .slice none 0 0)])))) ∧ Wk q v.ownBlock w w6 ∧ RowTo w v v4) := ⟨h6, HK5.out.1.trans hk6 HK5.out.2.or, HK5.out.2⟩
 clear h6 hk6
 go_wp2
 go_end0
 refine ⟨rfl, v4, (z_ap 9 (n3 : Int), .slice none 0 0) :: (rs ++ [(z_ap 9 (n3 : Int), .slice none 0 0)]), ?_, ?_, HE.out.2⟩
 ·show z_ap 9 _ :: (rs ++ [((z_ap 9 (n3 : Int), Value.slice none 0 0) : Stp × Value)]).map (·.1) = _
  rw [List.map_append, HRS.out, ← hn.out, HN3.out, HRL.out]; rfl
 ·rw [← hn.out]; exact HE.out.1
end
section
open Go.RowKit
def LBox (w : World) (p : Nat) (l : Ln) (ao : Option Addr) (cap : Nat) : Prop := w.heap[p]? = some (.cells #[.int .i64 l.1, .string l.2.to, .string l.2.name, .slice ao l.2.args.length cap, .string l.2.undo] 49 (0, 0))
section
variable {q base p : Nat} {lo ao : Option Addr} {cap c : Nat} {ls : List Ln} {w w' w0 W0 : World} {at_ : Nat} {v v' : Value} {ps : List (Stp × Value)} {l : Ln}
theorem LBox.cells (h : LBox w p l ao c) : w.cell? ⟨p, 0, none⟩ = some (.int .i64 l.1) ∧ w.cell? ⟨p, 1, none⟩ = some (.string l.2.to) ∧ w.cell? ⟨p, 2, none⟩ = some (.string l.2.name) ∧ w.cell? ⟨p, 3, none⟩ = some (.slice ao l.2.args.length c) ∧ w.cell? ⟨p, 4, none⟩ = some (.string l.2.undo) := by
 refine ⟨?_, ?_, ?_, ?_, ?_⟩ <;> (rw [cell_of_row _ _ _ _ _ _ h]; rfl)
theorem LBox.keep (h : LBox w p l ao c) (hm : MkSt q base lo cap ls w at_ v ps) (hk : Wk q v.ownBlock w w') : LBox w' p l ao c := by
 obtain ⟨h1, h2, h3⟩ := hm.other h (by decide) (by decide)
 exact (hk.block p h1 h2 (fun e => h3 e.symm)).trans h
theorem LBox.below (h : LBox w p l ao c) (hb : Below w.heap.size w w') : LBox w' p l ao c := (hb.block p (Array.getElem?_eq_some_iff.1 h).1).trans h
theorem z_dL {uo : Option Addr} {uc : Nat} (hm : MkSt q base lo cap ls w at_ v ps) (hx : LBox w p l ao c) (hb : Below w.drew.heap.size w.drew w') (hu : w'.ownsRow w.drew.heap.size 9 1 (.slice uo l.2.args.length uc) l.2.args.length (strCells l.2.args)) :
  Hid (MkSt q base lo cap ls w' at_ v ps) ∧ Hid (w'.cell? ⟨p, 0, none⟩ = some (.int .i64 l.1) ∧ w'.cell? ⟨p, 1, none⟩ = some (.string l.2.to) ∧ w'.cell? ⟨p, 2, none⟩ = some (.string l.2.name) ∧ w'.cell? ⟨p, 3, none⟩ = some (.slice ao l.2.args.length c) ∧ w'.cell? ⟨p, 4, none⟩ = some (.string l.2.undo)) ∧ Hid (Wk q v.ownBlock w w') ∧ Hid (LBox w' p l ao c)
  ∧ Hid (w'.ownsRow base 9 1 (.slice uo l.2.args.length uc) l.2.args.length (strCells l.2.args)) ∧ Hid (∀ x ∈ ps, ∀ k, x.2.ownBlock = some k → (Value.slice uo l.2.args.length uc).ownBlock ≠ some k) ∧ w.heap.size ≤ w'.heap.size := by
 have hb' : Below w.heap.size w w' := (Below.refl _ _).drew.trans hb
 have hx' := hx.below hb'
 refine ⟨hm.below hb', hx'.cells, Wk.of_below hb', hx', z_bh hu hm.bw, fun x hx k hk e => ?_, hb'.size⟩
 have h1 := ((hm.own.args x hx).lt k hk).2
 have h2 := (hu.lt k e).1
 exact absurd h1 (Nat.not_lt.2 h2)
theorem z_dj {nb na : Nat} {e : List (Stp × Value)} {w2 w3 : World} (hs1 : MkSt q base lo cap ls w at_ v ps) (hk1 : Wk q v.ownBlock w0 w) (hk2 : Wk q v.ownBlock w w2) (hs2 : MkSt q base lo cap ls w2 at_ v ps) (hx : LBox w2 p l ao c) (hf : FillB q w3 nb na ps.length) (h3 : MkSt q base lo cap ls w3 at_ v' e) (hk3 : Wk q v.ownBlock w2 w3) (hr3 : RowTo w2 v v') :
  Hid (MkSt q base lo cap ls w3 at_ v' e) ∧ Hid (w3.cell? ⟨p, 0, none⟩ = some (.int .i64 l.1) ∧ w3.cell? ⟨p, 1, none⟩ = some (.string l.2.to) ∧ w3.cell? ⟨p, 2, none⟩ = some (.string l.2.name) ∧ w3.cell? ⟨p, 3, none⟩ = some (.slice ao l.2.args.length c) ∧ w3.cell? ⟨p, 4, none⟩ = some (.string l.2.undo)) ∧ Hid (Wk q v.ownBlock w0 w3 ∧ RowTo w0 v v') ∧ Hid (LBox w3 p l ao c) ∧ Hid (FillB q w3 nb na ps.length) := by
 have hx' := hx.keep hs2 hk3
 exact ⟨h3, hx'.cells, ⟨(hk1.trans hk2 (.inl rfl)).trans hk3 (.inl rfl), RowTo.refl.trans hr3 (Nat.le_trans hk1.size hk2.size)⟩, hx', hf⟩
end
theorem z_gQ (q base : Nat) (lo : Option Addr) (cap : Nat) (ls : List Ln) (at_ : Nat) (hl : ls.length ≤ 60) (hat : at_ < ls.length) (hk : z_am ls[at_].1 = false) (hz : LnSz ls[at_]) :
  BlkOK q base lo cap ls 75 at_ (at_ + 1) 500 (fun n => [z_as ls[at_] 0 0]) := by
 intro w v ps hs hps
 have HS : Hid (MkSt q base lo cap ls w at_ v ps) := hs
 obtain ⟨b, off, rfl, hB, aoA, capA, hcA, q0, q1, q2, q3, q4, hA⟩ := hs.linesW at_ hat
 obtain ⟨L, hL⟩ : ∃ L, L = ls[at_] := ⟨_, rfl⟩
 rw [← hL] at q0 q1 q2 q3 q4 hA hcA hz hk ⊢
 clear hL
 obtain ⟨kd, dd⟩ := L
 simp only at q0 q1 q2 q3 q4 hcA hA hk
 have HZ : Hid (LnSz (kd, dd)) := hz
 have HA : Hid (StrsAt 0 w.heap.size w aoA dd.args) := hA
 have hch : z_aE kd = false := by unfold z_am at hk; simp only [Bool.or_eq_false_iff] at hk; exact hk.1.1
 have h8 : (kd == 8) = false := by unfold z_am at hk; simp only [Bool.or_eq_false_iff] at hk; exact hk.1.2
 have h9 : (kd == 9) = false := by unfold z_am at hk; simp only [Bool.or_eq_false_iff] at hk; exact hk.2
 have w1 := hs.c1
 have w2 := hs.c2
 have hqlt := hs.lt
 obtain ⟨n, hn⟩ : ∃ n, n = ps.length := ⟨_, rfl⟩
 have HN : Hid (ps.length = n) := hn.symm
 have hn5 : n ≤ 500 := by omega
 clear hs hz hA hn hps
 go_enter Tryz.func75, Tryz.ntmps75
 go_wp2
 go_region
 all_goals
  obtain ⟨W1, hW1⟩ : ∃ W1, W1 = (w.alloc (.cells #[.int .i64 kd, .string dd.to, .string dd.name, .slice aoA dd.args.length capA, .string dd.undo] 49)).drew := ⟨_, rfl⟩
  have hbw : Below w.heap.size w W1 := by rw [hW1]; exact ((Below.refl _ _).alloc (Nat.le_refl _) _).drew
  have HX1 : LBox W1 w.heap.size (kd, dd) aoA capA := by rw [hW1]; exact heap_alloc_new w _
  have hsz1 : W1.heap.size = w.heap.size + 1 := by rw [hW1]; simp
  rw [← hW1]
  clear hW1
  have HS1 : Hid (MkSt q base (some ⟨b, off, none⟩) cap ls W1 at_ v ps) := HS.out.below hbw
  have HA1 : Hid (StrsAt 0 W1.heap.size W1 aoA dd.args) := HA.out.later hbw
  have HK1 : Hid (Wk q v.ownBlock w W1) := Wk.of_below hbw
  obtain ⟨x0, x1, x2, x3, x4⟩ := HX1.cells
  have hlt1 : w.heap.size < W1.heap.size := by omega
  clear hbw q0 q1 q2 q3 q4 w1 w2
  go_wp2_with fail
  refine (z_cz q base _ cap ls at_ v _ n _ HS1.out HN.out (by omega)).mono ?_
  rintro e wx ⟨rfl, rfl⟩
  go_wp2_with fail
  go_region_held3 (fun wz => wz.cell? ⟨w.heap.size, 0, none⟩ = some (.int .i64 kd) ∧ wz.cell? ⟨w.heap.size, 1, none⟩ = some (.string dd.to) ∧ wz.cell? ⟨w.heap.size, 2, none⟩ = some (.string dd.name) ∧ wz.cell? ⟨w.heap.size, 3, none⟩ = some (.slice aoA dd.args.length capA) ∧ wz.cell? ⟨w.heap.size, 4, none⟩ = some (.string dd.undo))
   (first | (go_keep; done) | exact HY2.out | exact HY3.out)
   (first
    | (go_at_call 108; refine (z_db (kd, dd) aoA capA _ HZ.out.len (HA1.out.later (Below.refl _ _).drew)).mono ?_; rintro e W2 ⟨uo, uc, rfl, hb2, hu2⟩; obtain ⟨HS2, HY2, HK2, HX2, HU2, HAp2, hsz2⟩ := z_dL HS1.out HX1 hb2 hu2; clear hb2 hu2)
    | (go_at_call 107; refine (z_fq q base (some ⟨b, off, none⟩) cap ls at_ v ps (z_as (kd, dd) 0 0) uo uc _ HS2.out (by rw [HN.out]; omega) HU2.out HAp2.out).mono ?_; rintro e W3 ⟨v3, nb, na, rfl, h3, hk3, hr3, hf3⟩; obtain ⟨HS3, HY3, HK3, HX3, HF3⟩ := z_dj HS1.out HK1.out HK2.out HS2.out HX2.out hf3 h3 hk3 hr3; clear h3 hk3 hr3 hf3))
  all_goals
   obtain ⟨y0, y1, y2, y3, y4⟩ := HX3.out.cells
   have z2 := HS3.out.c2
   have zf := HS3.out.fz 2
   have zlt := HS3.out.lt
   go_wp2_with (first | (go_at_call 84; refine (z_bb _ _).mono ?_; rintro e wx ⟨rfl, rfl⟩; rw [hk]) | (go_at_call 110; refine (z_aX _ _).mono ?_; rintro e wx ⟨rfl, rfl⟩; rw [hch]))
   go_end0
   have e7 : ((at_ + 1 : Nat) : Int) = (at_ : Int) + 1 := by omega
   have hs7 := HS3.out.set2 (at_ + 1)
   rw [e7] at hs7
   exact ⟨rfl, v3, [(z_as (kd, dd) 0 0, .slice uo dd.args.length uc)], rfl, hs7, HK3.out.1.trans (Wk.of_set (row := v3.ownBlock) 2 _) HK3.out.2.or, HK3.out.2⟩
end
section
open Go.RowKit
theorem z_dq (q base : Nat) (lo : Option Addr) (cap : Nat) (ls : List Ln) (at_ at2 at3 : Nat) (f : Nat → List Stp) (d : Nat) (g : Nat → Nat → List Stp) (hl : ls.length ≤ 60) (hat : at_ < ls.length) (hat3 : at3 ≤ 1000) (hk : z_aE ls[at_].1 = true) (hz : LnSz ls[at_]) (N NI NT m : Nat) (hN : N ≤ 500) (hNI : N + 1 ≤ NI) (hm : m ≤ 400) (hNT : N + m ≤ NT) (hfl : ∀ n, (f n).length ≤ m)
  (HI : BlkOK q base lo cap ls 109 at_ at2 NI f) (HT : z_dk q base lo cap ls 111 at2 at3 NT (fun i => #[]) d g) :
  BlkOK q base lo cap ls 75 at_ (at3 + 1) N (fun n => z_as ls[at_] ((n + 1 : Nat) : Int) ((n + 1 + (f (n + 1)).length + d : Nat) : Int) :: (f (n + 1) ++ g n (n + 1 + (f (n + 1)).length))) := by
 intro w v ps hs hps
 have HHI : Hid (BlkOK q base lo cap ls 109 at_ at2 NI f) := HI
 have HHT : Hid (z_dk q base lo cap ls 111 at2 at3 NT (fun i => #[]) d g) := HT
 clear HI HT
 have HS : Hid (MkSt q base lo cap ls w at_ v ps) := hs
 have HFL : Hid (∀ n, (f n).length ≤ m) := hfl
 obtain ⟨b, off, rfl, hB, aoA, capA, hcA, q0, q1, q2, q3, q4, hA⟩ := hs.linesW at_ hat
 obtain ⟨L, hL⟩ : ∃ L, L = ls[at_] := ⟨_, rfl⟩
 rw [← hL] at q0 q1 q2 q3 q4 hA hcA hz hk ⊢
 clear hL hfl
 obtain ⟨kd, dd⟩ := L
 simp only at q0 q1 q2 q3 q4 hcA hA hk
 have HZ : Hid (LnSz (kd, dd)) := hz
 have HA : Hid (StrsAt 0 w.heap.size w aoA dd.args) := hA
 have hop : z_am kd = true := by unfold z_am; rw [hk]; rfl
 have w1 := hs.c1
 have w2 := hs.c2
 have hqlt := hs.lt
 obtain ⟨n, hn⟩ : ∃ n, n = ps.length := ⟨_, rfl⟩
 have HN : Hid (ps.length = n) := hn.symm
 have hn5 : n ≤ N := by omega
 clear hs hz hA hn hps
 go_enter Tryz.func75, Tryz.ntmps75
 go_wp2
 go_region
 all_goals
  obtain ⟨W1, hW1⟩ : ∃ W1, W1 = (w.alloc (.cells #[.int .i64 kd, .string dd.to, .string dd.name, .slice aoA dd.args.length capA, .string dd.undo] 49)).drew := ⟨_, rfl⟩
  have hbw : Below w.heap.size w W1 := by rw [hW1]; exact ((Below.refl _ _).alloc (Nat.le_refl _) _).drew
  have HX1 : LBox W1 w.heap.size (kd, dd) aoA capA := by rw [hW1]; exact heap_alloc_new w _
  have hsz1 : W1.heap.size = w.heap.size + 1 := by rw [hW1]; simp
  rw [← hW1]
  clear hW1
  have HS1 : Hid (MkSt q base (some ⟨b, off, none⟩) cap ls W1 at_ v ps) := HS.out.below hbw
  have HA1 : Hid (StrsAt 0 W1.heap.size W1 aoA dd.args) := HA.out.later hbw
  have HK1 : Hid (Wk q v.ownBlock w W1) := Wk.of_below hbw
  obtain ⟨x0, x1, x2, x3, x4⟩ := HX1.cells
  have hlt1 : w.heap.size < W1.heap.size := by omega
  clear hbw q0 q1 q2 q3 q4 w1 w2
  go_wp2_with fail
  refine (z_cz q base _ cap ls at_ v _ n _ HS1.out HN.out (by omega)).mono ?_
  rintro e wx ⟨rfl, rfl⟩
  go_wp2_with fail
  go_region_held3 (fun wz => wz.cell? ⟨w.heap.size, 0, none⟩ = some (.int .i64 kd) ∧ wz.cell? ⟨w.heap.size, 1, none⟩ = some (.string dd.to) ∧ wz.cell? ⟨w.heap.size, 2, none⟩ = some (.string dd.name) ∧ wz.cell? ⟨w.heap.size, 3, none⟩ = some (.slice aoA dd.args.length capA) ∧ wz.cell? ⟨w.heap.size, 4, none⟩ = some (.string dd.undo))
   (first | (go_keep; done) | exact HY2.out | exact HY3.out)
   (first
    | (go_at_call 108; refine (z_db (kd, dd) aoA capA _ HZ.out.len (HA1.out.later (Below.refl _ _).drew)).mono ?_; rintro e W2 ⟨uo, uc, rfl, hb2, hu2⟩; obtain ⟨HS2, HY2, HK2, HX2, HU2, HAp2, hsz2⟩ := z_dL HS1.out HX1 hb2 hu2; clear hb2 hu2)
    | (go_at_call 107; refine (z_fq q base (some ⟨b, off, none⟩) cap ls at_ v ps (z_as (kd, dd) 0 0) uo uc _ HS2.out (by rw [HN.out]; omega) HU2.out HAp2.out).mono ?_; rintro e W3 ⟨v3, nb, na, rfl, h3, hk3, hr3, hf3⟩; obtain ⟨HS3, HY3, HK3, HX3, HF3⟩ := z_dj HS1.out HK1.out HK2.out HS2.out HX2.out hf3 h3 hk3 hr3; clear h3 hk3 hr3 hf3))
  all_goals
   obtain ⟨y0, y1, y2, y3, y4⟩ := HX3.out.cells
   go_wp2_with (go_at_call 84; refine (z_bb _ _).mono ?_; rintro e wx ⟨rfl, rfl⟩; rw [hop])
   have hn1 : (ps ++ [(z_as (kd, dd) 0 0, Value.slice uo dd.args.length uc)]).length = n + 1 := by have := HN.out; simp; omega
   refine (z_cz q base _ cap ls at_ v3 _ (n + 1) _ HS3.out hn1 (by omega)).mono ?_
   rintro e wx ⟨rfl, rfl⟩
   go_wp2_with fail
   refine (z_co q base _ cap ls at_ v3 ps [] _ nb na (n + 1 : Nat) _ HS3.out HF3.out (by have := HN.out; simp; omega)).mono ?_
   rintro e W4 ⟨rfl, h4, hk4⟩
   have HF4 : Hid (FillB q W4 nb na ps.length) := HF3.out.keep HS3.out hk4
   have HX4 : Hid (LBox W4 w.heap.size (kd, dd) aoA capA) := HX3.out.keep HS3.out hk4
   have HS4 : Hid (MkSt q base (some ⟨b, off, none⟩) cap ls W4 at_ v3 (ps ++ [(setA (z_as (kd, dd) 0 0) ((n + 1 : Nat) : Int), Value.slice uo dd.args.length uc)])) := h4
   have HK4 : Hid (Wk q v.ownBlock w W4 ∧ RowTo w v v3) := ⟨HK3.out.1.trans hk4 HK3.out.2.or, HK3.out.2⟩
   clear h4 hk4 y0 y1 y2 y3 y4 HF3
   go_wp2_with fail
   refine (HHI.out W4 v3 _ HS4.out (by simp [HN.out]; omega)).mono ?_
   rintro e W5 ⟨rfl, v5, qs, hqs, h5, hk5, hr5⟩
   have hn4 : (ps ++ [(setA (z_as (kd, dd) 0 0) ((n + 1 : Nat) : Int), Value.slice uo dd.args.length uc)]).length = n + 1 := by have := HN.out; simp; omega
   rw [hn4] at hqs
   have hql : qs.length = (f (n + 1)).length := by rw [← hqs]; simp
   have hql2 : qs.length ≤ m := by rw [hql]; exact HFL.out _
   have HQS : Hid (qs.map (·.1) = f (n + 1)) := hqs
   have HQL : Hid (qs.length = (f (n + 1)).length) := hql
   have HF5 : Hid (FillB q W5 nb na ps.length) := HF4.out.keep HS4.out hk5
   have HX5 : Hid (LBox W5 w.heap.size (kd, dd) aoA capA) := HX4.out.keep HS4.out hk5
   have e5 : (ps ++ [(setA (z_as (kd, dd) 0 0) ((n + 1 : Nat) : Int), Value.slice uo dd.args.length uc)]) ++ qs = ps ++ (setA (z_as (kd, dd) 0 0) ((n + 1 : Nat) : Int), Value.slice uo dd.args.length uc) :: qs := by simp
   rw [e5] at h5
   have HS5 : Hid (MkSt q base (some ⟨b, off, none⟩) cap ls W5 at2 v5 (ps ++ (setA (z_as (kd, dd) 0 0) ((n + 1 : Nat) : Int), Value.slice uo dd.args.length uc) :: qs)) := h5
   have HK5 : Hid (Wk q v.ownBlock w W5 ∧ RowTo w v v5) := ⟨HK4.out.1.trans hk5 HK4.out.2.or, HK4.out.2.trans hr5 HK4.out.1.size⟩
   obtain ⟨y0, y1, y2, y3, y4⟩ := HX5.out.cells
   clear h5 hk5 hr5 hqs hql HX4 HF4 HS4 HK4
   go_wp2_with (go_at_call 110; refine (z_aX _ _).mono ?_; rintro e W5 ⟨rfl, rfl⟩; rw [hk])
   have HTl := HHT.out W5 v5 ps _ qs nb na HS5.out HF5.out (by rw [HN.out]; omega)
   rw [HN.out] at HTl
   refine HTl.mono ?_
   clear HTl y0 y1 y2 y3 y4
   rintro e W6 ⟨rfl, v6, rs, hrs, h6, hk6, hr6⟩
   have HS6 : Hid (MkSt q base (some ⟨b, off, none⟩) cap ls W6 at3 v6 _) := h6
   have HRS : Hid (rs.map (·.1) = g n (ps.length + 1 + qs.length)) := hrs
   have HK6 : Hid (Wk q v.ownBlock w W6 ∧ RowTo w v v6) := ⟨HK5.out.1.trans hk6 HK5.out.2.or, HK5.out.2.trans hr6 HK5.out.1.size⟩
   have HX6 : Hid (LBox W6 w.heap.size (kd, dd) aoA capA) := HX5.out.keep HS5.out hk6
   have z2 := h6.c2
   have zf := h6.fz 2
   have zlt := h6.lt
   obtain ⟨y0, y1, y2, y3, y4⟩ := HX6.out.cells
   clear h6 hk6 hr6 hrs HX5 HF5 HK5
   go_wp2
   go_end0
   have e7 : ((at3 + 1 : Nat) : Int) = (at3 : Int) + 1 := by omega
   have hs7 := HS6.out.set2 (at3 + 1)
   rw [e7] at hs7
   refine ⟨rfl, v6, (z_as (kd, dd) ((n + 1 : Nat) : Int) ((n + 1 + (f (n + 1)).length + d : Nat) : Int), Value.slice uo dd.args.length uc) :: (qs ++ rs), ?_, ?_, HK6.out.1.trans (Wk.of_set (row := v6.ownBlock) 2 _) HK6.out.2.or, HK6.out.2⟩
   ·have h1 := HRS.out
    have h2 := HQS.out
    rw [List.map_cons, List.map_append, h1, h2, HQL.out, HN.out]
   ·rw [HN.out, HQL.out] at hs7
    exact hs7
end
end Go.Proofs.YtlbjjbolbopfmaaGreatDoor
