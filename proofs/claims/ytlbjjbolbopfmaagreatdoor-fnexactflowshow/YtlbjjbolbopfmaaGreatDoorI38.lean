import Derived.Test.YtlbjjbolbopfmaaGreatDoorI37
namespace Go.Proofs.YtlbjjbolbopfmaaGreatDoor
set_option maxHeartbeats 8000000
set_option maxRecDepth 1000000
set_option linter.unusedVariables false
section
open Go.RowKit
theorem z_hs (q base : Nat) (lo : Option Addr) (cap : Nat) (ls : List Ln) (at_ at2 at3 N NI : Nat) (k1 k2 : Int) (f f2 : Nat → List Stp) (dd : Bd) (hat : at_ ≤ 1000) (hto : dd.to = eS) (hnm : dd.name = eS) (hargs : dd.args = []) (hud : dd.undo = eS) (hN : N ≤ 500) (hNI : N + 1 ≤ NI) (hNI2 : NI ≤ 100000) (m : Nat) (hm : m ≤ 400) (hfl : ∀ n, (f n).length ≤ m) (hfl2 : ∀ n, (f2 n).length ≤ 1000)
  (H : SkBlk q base lo cap ls (at_ + 1) at2 NI k1 f) (H2 : SkBlk q base lo cap ls at2 at3 (NI + m + 1) k2 f2) :
  SkInn q base lo cap ls 72 at_ at3 N (9, dd) (fun n => z_as (9, dd) ((n + 1 : Nat) : Int) ((n + 2 + (f (n + 1)).length : Nat) : Int) :: (f (n + 1) ++ z_ap 9 ((n + 3 + (f (n + 1)).length + (f2 (n + 2 + (f (n + 1)).length)).length : Nat) : Int) :: (f2 (n + 2 + (f (n + 1)).length) ++ [z_ap 9 ((n + 3 + (f (n + 1)).length + (f2 (n + 2 + (f (n + 1)).length)).length : Nat) : Int)]))) := by
 intro w v ps ao c hs ha hps
 show Calls Tryz.prog 72 #[.pointer (some ⟨q, 0, none⟩), .agg #[.int .i64 9, .string dd.to, .string dd.name, .slice ao dd.args.length c, .string dd.undo]] w _
 have HH : Hid (SkBlk q base lo cap ls (at_ + 1) at2 NI k1 f) := H
 have HH2 : Hid (SkBlk q base lo cap ls at2 at3 (NI + m + 1) k2 f2) := H2
 have HFL : Hid (∀ n, (f n).length ≤ m) := hfl
 have HFL2 : Hid (∀ n, (f2 n).length ≤ 1000) := hfl2
 have HST : Hid (∀ a b, (⟨8, ⟨#[]⟩, ⟨#[]⟩, [], ⟨#[]⟩, a, b⟩ : Stp) = z_as (9, dd) a b) := fun a b => by
  show _ = (⟨z_cg 9, dd.to, dd.name, dd.args, dd.undo, a, b⟩ : Stp)
  rw [hto, hud, hnm, hargs]; rfl
 obtain ⟨WA, hWA⟩ : ∃ WA, WA = w.setCell ⟨q, 1, none⟩ (.int .i64 ((at_ : Int) + 1)) := ⟨_, rfl⟩
 obtain ⟨W1, hW1⟩ : ∃ W1, W1 = WA.alloc (.cells #[.int .i64 9, .string dd.to, .string dd.name, .slice ao dd.args.length c, .string dd.undo] 49) := ⟨_, rfl⟩
 have hszA : WA.heap.size = w.heap.size := by rw [hWA]; simp [World.setCell]
 have hb1 : Below WA.heap.size WA W1 := by rw [hW1]; exact (Below.refl _ _).alloc (Nat.le_refl _) _
 have HX1 : LBox W1 w.heap.size (9, dd) ao c := by rw [hW1, ← hszA]; exact heap_alloc_new WA _
 have HWE : Hid ((w.setCell ⟨q, 1, none⟩ (.int .i64 ((at_ : Int) + 1))).alloc (.cells #[.int .i64 9, .string dd.to, .string dd.name, .slice ao dd.args.length c, .string dd.undo] 49) = W1) := by show _ = _; rw [← hWA]; exact hW1.symm
 have hsx := hs.set1 (at_ + 1)
 rw [show ((at_ + 1 : Nat) : Int) = (at_ : Int) + 1 by omega, ← hWA] at hsx
 have hs1 := hsx.below hb1
 have HS1 : Hid (SkSt q base lo cap ls W1 (at_ + 1) v ps) := hs1
 have HAq : Hid (StrsAt 0 q W1 ao dd.args) := by
  have h := ha.setCell (p := ⟨q, 1, none⟩) (.inr (Nat.le_refl q)) (.int .i64 ((at_ : Int) + 1))
  rw [← hWA] at h
  exact h.below (hb1.mono (by have := hs.lt; omega))
 have HA1 : Hid (StrsAt 0 W1.heap.size W1 ao dd.args) := HAq.out.mono (Nat.le_refl _) (Nat.le_of_lt hs1.lt)
 have HK1 : Hid (Wk q v.ownBlock w W1) := by
  have h := Wk.of_set (q := q) (row := v.ownBlock) (w := w) 1 (.int .i64 ((at_ : Int) + 1))
  rw [← hWA] at h
  exact h.trans (Wk.of_below hb1) (.inl rfl)
 have hpq : ¬ w.heap.size = q := by have := hs.lt; omega
 have hpq2 : ¬ q = w.heap.size := by have := hs.lt; omega
 have c1 := hs.c1
 have fq1 := hs.fz 1
 have hq1 := hs.lt
 have hlt1 : w.heap.size < W1.heap.size := (Array.getElem?_eq_some_iff.1 HX1).1
 have hps5 : ps.length ≤ 500 := by omega
 have hpsN : ps.length ≤ N := hps
 have hps2 : ps.length ≤ 100000 := by omega
 clear hs ha H H2 hfl hfl2 hW1 hWA hszA hb1 hto hud hnm hargs hps hs1 hsx HX1 HA1 HAq
 go_enter Tryz.func72, Tryz.ntmps72
 go_wp2_with fail
 rw [HWE.out]
 refine (z_cQ q base lo cap ls (at_ + 1) v ps ⟨8, ⟨#[]⟩, ⟨#[]⟩, [], ⟨#[]⟩, 0, 0⟩ none 0 _ HS1.out (by omega) (World.ownsRow_nil _ _ _ _) (fun x hx k hk => by simp [Value.ownBlock])).mono ?_
 rintro e W3 ⟨rfl, g3, vc3, h3, hk3, hr3⟩
 replace h3 : SkSt q base lo cap ls W3 (at_ + 1) (.slice (some ⟨g3, 0, none⟩) (ps.length + 1) vc3) (ps ++ [((⟨8, ⟨#[]⟩, ⟨#[]⟩, [], ⟨#[]⟩, 0, 0⟩ : Stp), Value.slice none 0 0)]) := h3
 have HK3 : Hid (Wk q v.ownBlock w W3 ∧ RowTo w v (.slice (some ⟨g3, 0, none⟩) (ps.length + 1) vc3)) := ⟨HK1.out.trans hk3 (.inl rfl), RowTo.refl.trans hr3 HK1.out.size⟩
 obtain ⟨⟨u5, hu5⟩, hf5⟩ := z_gF h3 5 (by decide)
 have c2 := h3.c2
 have fq := h3.fz 2
 have hq3 := h3.lt
 have hi0 : (0 : Int) ≤ ps.length := by omega
 have hi1 : (ps.length : Int) < (ps.length : Int) + 1 := by omega
 obtain ⟨h4, hk4⟩ := z_fo h3 5 (by decide) (.int .i64 ((ps.length : Int) + 1)) ((⟨8, ⟨#[]⟩, ⟨#[]⟩, [], ⟨#[]⟩, (ps.length : Int) + 1, 0⟩ : Stp), Value.slice none 0 0).1 rfl rfl
 have HS4 : Hid (SkSt q base lo cap ls _ (at_ + 1) _ (ps ++ [((⟨8, ⟨#[]⟩, ⟨#[]⟩, [], ⟨#[]⟩, (ps.length : Int) + 1, 0⟩ : Stp), Value.slice none 0 0)])) := h4
 have HK4 : Hid (Wk q v.ownBlock w _ ∧ RowTo w v (.slice (some ⟨g3, 0, none⟩) (ps.length + 1) vc3)) := ⟨HK3.out.1.trans hk4 HK3.out.2.or, HK3.out.2⟩
 clear h4 hk4 h3 hk3 hr3 c1 fq1 HWE HS1
 go_wp2_with fail
 refine (HH.out _ _ _ HS4.out (by simp; omega)).mono ?_
 rintro e W5 ⟨rfl, v5, rs, hrs, h5, hk5, hr5⟩
 have hn4 : (ps ++ [((⟨8, ⟨#[]⟩, ⟨#[]⟩, [], ⟨#[]⟩, (ps.length : Int) + 1, 0⟩ : Stp), Value.slice none 0 0)]).length = ps.length + 1 := by simp
 rw [hn4] at hrs
 have HRS : Hid (rs.map (·.1) = f (ps.length + 1)) := hrs
 have hrl : rs.length = (f (ps.length + 1)).length := by rw [← hrs]; simp
 have HRL : Hid (rs.length = (f (ps.length + 1)).length) := hrl
 have hrl2 : rs.length ≤ m := by rw [hrl]; exact HFL.out _
 obtain ⟨n5, hn5⟩ : ∃ n5, n5 = ps.length + 1 + rs.length := ⟨_, rfl⟩
 have HN5 : Hid (n5 = ps.length + 1 + rs.length) := hn5
 have e5 : (ps ++ [((⟨8, ⟨#[]⟩, ⟨#[]⟩, [], ⟨#[]⟩, (ps.length : Int) + 1, 0⟩ : Stp), Value.slice none 0 0)]) ++ rs = ps ++ ((⟨8, ⟨#[]⟩, ⟨#[]⟩, [], ⟨#[]⟩, (ps.length : Int) + 1, 0⟩ : Stp), Value.slice none 0 0) :: rs := by simp
 rw [e5] at h5
 have HK5 : Hid (Wk q v.ownBlock w W5 ∧ RowTo w v v5) := ⟨HK4.out.1.trans hk5 HK4.out.2.or, HK4.out.2.trans hr5 HK4.out.1.size⟩
 have HS5 : Hid (SkSt q base lo cap ls W5 at2 v5 (ps ++ ((⟨8, ⟨#[]⟩, ⟨#[]⟩, [], ⟨#[]⟩, (ps.length : Int) + 1, 0⟩ : Stp), Value.slice none 0 0) :: rs)) := h5
 have hn5b : n5 ≤ 2000 := by omega
 have hpl : ps.length < n5 := by omega
 have HNL : Hid ((ps ++ ((⟨8, ⟨#[]⟩, ⟨#[]⟩, [], ⟨#[]⟩, (ps.length : Int) + 1, 0⟩ : Stp), Value.slice none 0 0) :: rs).length = n5) := by show _ = _; have := HN5.out; simp; omega
 have hq5 := h5.lt
 have hqb := h5.qb
 clear h5 hk5 hr5 hrs hrl hn5 e5 hn4 u5 hu5 hf5 c2 fq hq3 HS4 HK4 HK3
 go_wp2_with fail
 refine (z_cQ q base lo cap ls at2 v5 _ ⟨9, ⟨#[]⟩, ⟨#[]⟩, [], ⟨#[]⟩, 0, 0⟩ none 0 _ HS5.out (by rw [HNL.out]; omega) (World.ownsRow_nil _ _ _ _) (fun x hx k hk => by simp [Value.ownBlock])).mono ?_
 rintro e W6 ⟨rfl, g6, vc6, h6, hk6, hr6⟩
 rw [HNL.out] at h6 hr6 ⊢
 have e6 : (ps ++ ((⟨8, ⟨#[]⟩, ⟨#[]⟩, [], ⟨#[]⟩, (ps.length : Int) + 1, 0⟩ : Stp), Value.slice none 0 0) :: rs) ++ [((⟨9, ⟨#[]⟩, ⟨#[]⟩, [], ⟨#[]⟩, 0, 0⟩ : Stp), Value.slice none 0 0)] = ps ++ ((⟨8, ⟨#[]⟩, ⟨#[]⟩, [], ⟨#[]⟩, (ps.length : Int) + 1, 0⟩ : Stp), Value.slice none 0 0) :: (rs ++ [((⟨9, ⟨#[]⟩, ⟨#[]⟩, [], ⟨#[]⟩, 0, 0⟩ : Stp), Value.slice none 0 0)]) := by simp
 replace h6 : SkSt q base lo cap ls W6 at2 (.slice (some ⟨g6, 0, none⟩) (n5 + 1) vc6) ((ps ++ ((⟨8, ⟨#[]⟩, ⟨#[]⟩, [], ⟨#[]⟩, (ps.length : Int) + 1, 0⟩ : Stp), Value.slice none 0 0) :: rs) ++ [((⟨9, ⟨#[]⟩, ⟨#[]⟩, [], ⟨#[]⟩, 0, 0⟩ : Stp), Value.slice none 0 0)]) := h6
 rw [e6] at h6
 have HK6 : Hid (Wk q v.ownBlock w W6 ∧ RowTo w v (.slice (some ⟨g6, 0, none⟩) (n5 + 1) vc6)) := ⟨HK5.out.1.trans hk6 HK5.out.2.or, HK5.out.2.trans hr6 HK5.out.1.size⟩
 obtain ⟨_, _, ee, hle6, hlt6, hqg6, ⟨u6, hu6⟩, hf6⟩ := z_fa h6 (n5 + 1) (by have := HN5.out; simp; omega) 6 (by decide)
 cases ee
 obtain ⟨h7, hk7⟩ := z_fo h6 6 (by decide) (.int .i64 ((n5 : Int) + 1)) ((⟨8, ⟨#[]⟩, ⟨#[]⟩, [], ⟨#[]⟩, (ps.length : Int) + 1, (n5 : Int) + 1⟩ : Stp), Value.slice none 0 0).1 rfl rfl
 have HS7 : Hid (SkSt q base lo cap ls _ at2 _ (ps ++ ((⟨8, ⟨#[]⟩, ⟨#[]⟩, [], ⟨#[]⟩, (ps.length : Int) + 1, (n5 : Int) + 1⟩ : Stp), Value.slice none 0 0) :: (rs ++ [((⟨9, ⟨#[]⟩, ⟨#[]⟩, [], ⟨#[]⟩, 0, 0⟩ : Stp), Value.slice none 0 0)]))) := h7
 have HK7 : Hid (Wk q v.ownBlock w _ ∧ RowTo w v (.slice (some ⟨g6, 0, none⟩) (n5 + 1) vc6)) := ⟨HK6.out.1.trans hk7 HK6.out.2.or, HK6.out.2⟩
 have d2 := h6.c2
 have hq6 := h6.lt
 have hj1 : (ps.length : Int) < (n5 : Int) + 1 := by omega
 clear h7 hk7 h6 hk6 hr6 e6 HS5 HK5
 go_wp2_with fail
 have hn7 : (ps ++ ((⟨8, ⟨#[]⟩, ⟨#[]⟩, [], ⟨#[]⟩, (ps.length : Int) + 1, (n5 : Int) + 1⟩ : Stp), Value.slice none 0 0) :: (rs ++ [((⟨9, ⟨#[]⟩, ⟨#[]⟩, [], ⟨#[]⟩, 0, 0⟩ : Stp), Value.slice none 0 0)])).length = n5 + 1 := by have := HN5.out; simp; omega
 refine (HH2.out _ _ _ HS7.out (by rw [hn7]; have := HN5.out; omega)).mono ?_
 rintro e W8 ⟨rfl, v8, rs2, hrs2, h8, hk8, hr8⟩
 rw [hn7] at hrs2
 have HRS2 : Hid (rs2.map (·.1) = f2 (n5 + 1)) := hrs2
 have hrl2b : rs2.length = (f2 (n5 + 1)).length := by rw [← hrs2]; simp
 have HRL2 : Hid (rs2.length = (f2 (n5 + 1)).length) := hrl2b
 have hrl3 : rs2.length ≤ 1000 := by rw [hrl2b]; exact HFL2.out _
 obtain ⟨n8, hn8⟩ : ∃ n8, n8 = n5 + 1 + rs2.length := ⟨_, rfl⟩
 have HN8 : Hid (n8 = n5 + 1 + rs2.length) := hn8
 have HK8 : Hid (Wk q v.ownBlock w W8 ∧ RowTo w v v8) := ⟨HK7.out.1.trans hk8 HK7.out.2.or, HK7.out.2.trans hr8 HK7.out.1.size⟩
 have HS8 : Hid (SkSt q base lo cap ls W8 at3 v8 ((ps ++ ((⟨8, ⟨#[]⟩, ⟨#[]⟩, [], ⟨#[]⟩, (ps.length : Int) + 1, (n5 : Int) + 1⟩ : Stp), Value.slice none 0 0) :: (rs ++ [((⟨9, ⟨#[]⟩, ⟨#[]⟩, [], ⟨#[]⟩, 0, 0⟩ : Stp), Value.slice none 0 0)])) ++ rs2)) := h8
 have HNL8 : Hid (((ps ++ ((⟨8, ⟨#[]⟩, ⟨#[]⟩, [], ⟨#[]⟩, (ps.length : Int) + 1, (n5 : Int) + 1⟩ : Stp), Value.slice none 0 0) :: (rs ++ [((⟨9, ⟨#[]⟩, ⟨#[]⟩, [], ⟨#[]⟩, 0, 0⟩ : Stp), Value.slice none 0 0)])) ++ rs2).length = n8) := by show _ = _; have := HN8.out; have := HN5.out; simp; omega
 have hn8b : n8 ≤ 5000 := by omega
 have hq8 := h8.lt
 have hj8 : (n5 : Int) < (n8 : Int) + 1 := by omega
 have hj7 : (n8 : Int) < (n8 : Int) + 1 := by omega
 have hj9 : (0 : Int) ≤ n5 := by omega
 have hj10 : (0 : Int) ≤ n8 := by omega
 clear h8 hk8 hr8 hrs2 hrl2b hn8 hn7 hu6 hf6 d2 hq6 HS7 HK7 HK6
 go_wp2_with fail
 refine (z_cQ q base lo cap ls at3 v8 _ ⟨9, ⟨#[]⟩, ⟨#[]⟩, [], ⟨#[]⟩, 0, 0⟩ none 0 _ HS8.out (by rw [HNL8.out]; omega) (World.ownsRow_nil _ _ _ _) (fun x hx k hk => by simp [Value.ownBlock])).mono ?_
 rintro e W9 ⟨rfl, g9, vc9, h9, hk9, hr9⟩
 rw [HNL8.out] at h9 hr9 ⊢
 have e9 : ((ps ++ ((⟨8, ⟨#[]⟩, ⟨#[]⟩, [], ⟨#[]⟩, (ps.length : Int) + 1, (n5 : Int) + 1⟩ : Stp), Value.slice none 0 0) :: (rs ++ [((⟨9, ⟨#[]⟩, ⟨#[]⟩, [], ⟨#[]⟩, 0, 0⟩ : Stp), Value.slice none 0 0)])) ++ rs2) ++ [((⟨9, ⟨#[]⟩, ⟨#[]⟩, [], ⟨#[]⟩, 0, 0⟩ : Stp), Value.slice none 0 0)] = (ps ++ ((⟨8, ⟨#[]⟩, ⟨#[]⟩, [], ⟨#[]⟩, (ps.length : Int) + 1, (n5 : Int) + 1⟩ : Stp), Value.slice none 0 0) :: rs) ++ ((⟨9, ⟨#[]⟩, ⟨#[]⟩, [], ⟨#[]⟩, 0, 0⟩ : Stp), Value.slice none 0 0) :: (rs2 ++ [((⟨9, ⟨#[]⟩, ⟨#[]⟩, [], ⟨#[]⟩, 0, 0⟩ : Stp), Value.slice none 0 0)]) := by simp
 replace h9 : SkSt q base lo cap ls W9 at3 (.slice (some ⟨g9, 0, none⟩) (n8 + 1) vc9) (((ps ++ ((⟨8, ⟨#[]⟩, ⟨#[]⟩, [], ⟨#[]⟩, (ps.length : Int) + 1, (n5 : Int) + 1⟩ : Stp), Value.slice none 0 0) :: (rs ++ [((⟨9, ⟨#[]⟩, ⟨#[]⟩, [], ⟨#[]⟩, 0, 0⟩ : Stp), Value.slice none 0 0)])) ++ rs2) ++ [((⟨9, ⟨#[]⟩, ⟨#[]⟩, [], ⟨#[]⟩, 0, 0⟩ : Stp), Value.slice none 0 0)]) := h9
 rw [e9] at h9
 have hnl : (ps ++ ((⟨8, ⟨#[]⟩, ⟨#[]⟩, [], ⟨#[]⟩, (ps.length : Int) + 1, (n5 : Int) + 1⟩ : Stp), Value.slice none 0 0) :: rs).length = n5 := by have := HN5.out; simp; omega
 have HK9 : Hid (Wk q v.ownBlock w W9 ∧ RowTo w v (.slice (some ⟨g9, 0, none⟩) (n8 + 1) vc9)) := ⟨HK8.out.1.trans hk9 HK8.out.2.or, HK8.out.2.trans hr9 HK8.out.1.size⟩
 obtain ⟨_, _, ee, hle9, hlt9, hqg9, ⟨u9, hu9⟩, hf9⟩ := z_fa h9 (n8 + 1) (by have := HN8.out; have := HN5.out; simp; omega) 5 (by decide)
 cases ee
 obtain ⟨h10, hk10⟩ := z_fo h9 5 (by decide) (.int .i64 ((n8 : Int) + 1)) ((⟨9, ⟨#[]⟩, ⟨#[]⟩, [], ⟨#[]⟩, (n8 : Int) + 1, 0⟩ : Stp), Value.slice none 0 0).1 rfl rfl
 rw [hnl] at hu9 hf9 h10 hk10
 have e10 : (ps ++ ((⟨8, ⟨#[]⟩, ⟨#[]⟩, [], ⟨#[]⟩, (ps.length : Int) + 1, (n5 : Int) + 1⟩ : Stp), Value.slice none 0 0) :: rs) ++ ((⟨9, ⟨#[]⟩, ⟨#[]⟩, [], ⟨#[]⟩, (n8 : Int) + 1, 0⟩ : Stp), Value.slice none 0 0) :: (rs2 ++ [((⟨9, ⟨#[]⟩, ⟨#[]⟩, [], ⟨#[]⟩, 0, 0⟩ : Stp), Value.slice none 0 0)]) = (ps ++ ((⟨8, ⟨#[]⟩, ⟨#[]⟩, [], ⟨#[]⟩, (ps.length : Int) + 1, (n5 : Int) + 1⟩ : Stp), Value.slice none 0 0) :: (rs ++ ((⟨9, ⟨#[]⟩, ⟨#[]⟩, [], ⟨#[]⟩, (n8 : Int) + 1, 0⟩ : Stp), Value.slice none 0 0) :: rs2)) ++ [((⟨9, ⟨#[]⟩, ⟨#[]⟩, [], ⟨#[]⟩, 0, 0⟩ : Stp), Value.slice none 0 0)] := by simp
 replace h10 : SkSt q base lo cap ls _ at3 _ ((ps ++ ((⟨8, ⟨#[]⟩, ⟨#[]⟩, [], ⟨#[]⟩, (ps.length : Int) + 1, (n5 : Int) + 1⟩ : Stp), Value.slice none 0 0) :: rs) ++ ((⟨9, ⟨#[]⟩, ⟨#[]⟩, [], ⟨#[]⟩, (n8 : Int) + 1, 0⟩ : Stp), Value.slice none 0 0) :: (rs2 ++ [((⟨9, ⟨#[]⟩, ⟨#[]⟩, [], ⟨#[]⟩, 0, 0⟩ : Stp), Value.slice none 0 0)])) := h10
 rw [e10] at h10
 have hnl2 : (ps ++ ((⟨8, ⟨#[]⟩, ⟨#[]⟩, [], ⟨#[]⟩, (ps.length : Int) + 1, (n5 : Int) + 1⟩ : Stp), Value.slice none 0 0) :: (rs ++ ((⟨9, ⟨#[]⟩, ⟨#[]⟩, [], ⟨#[]⟩, (n8 : Int) + 1, 0⟩ : Stp), Value.slice none 0 0) :: rs2)).length = n8 := by have := HN8.out; have := HN5.out; simp; omega
 obtain ⟨_, _, ee, hle11, hlt11, hqg11, ⟨u11, hu11⟩, hf11⟩ := z_fa h10 (n8 + 1) (by have := HN8.out; have := HN5.out; simp; omega) 5 (by decide)
 cases ee
 obtain ⟨h12, hk12⟩ := z_fo h10 5 (by decide) (.int .i64 ((n8 : Int) + 1)) ((⟨9, ⟨#[]⟩, ⟨#[]⟩, [], ⟨#[]⟩, (n8 : Int) + 1, 0⟩ : Stp), Value.slice none 0 0).1 rfl rfl
 rw [hnl2] at hu11 hf11 h12 hk12
 have HE : Hid (SkSt q base lo cap ls _ at3 _ ((ps ++ ((⟨8, ⟨#[]⟩, ⟨#[]⟩, [], ⟨#[]⟩, (ps.length : Int) + 1, (n5 : Int) + 1⟩ : Stp), Value.slice none 0 0) :: (rs ++ ((⟨9, ⟨#[]⟩, ⟨#[]⟩, [], ⟨#[]⟩, (n8 : Int) + 1, 0⟩ : Stp), Value.slice none 0 0) :: rs2)) ++ [((⟨9, ⟨#[]⟩, ⟨#[]⟩, [], ⟨#[]⟩, (n8 : Int) + 1, 0⟩ : Stp), Value.slice none 0 0)])) := h12
 have HK12 : Hid (Wk q v.ownBlock w _) := (HK9.out.1.trans hk10 HK9.out.2.or).trans hk12 HK9.out.2.or
 have d9 := h9.c2
 have hq9 := h9.lt
 have d10 := h10.c2
 have hq10 := h10.lt
 clear h9 hk9 hr9 h10 hk10 h12 hk12 e9 e10 hnl hnl2
 go_wp2
 go_end0
 refine ⟨rfl, _, ((⟨8, ⟨#[]⟩, ⟨#[]⟩, [], ⟨#[]⟩, (ps.length : Int) + 1, (n5 : Int) + 1⟩ : Stp), Value.slice none 0 0) :: (rs ++ ((⟨9, ⟨#[]⟩, ⟨#[]⟩, [], ⟨#[]⟩, (n8 : Int) + 1, 0⟩ : Stp), Value.slice none 0 0) :: (rs2 ++ [((⟨9, ⟨#[]⟩, ⟨#[]⟩, [], ⟨#[]⟩, (n8 : Int) + 1, 0⟩ : Stp), Value.slice none 0 0)])), ?_, ?_, HK12.out, HK9.out.2⟩
 ·have e1 : n5 + 1 = ps.length + 2 + (f (ps.length + 1)).length := by have := HN5.out; have := HRL.out; omega
  have e2 : n8 + 1 = ps.length + 3 + (f (ps.length + 1)).length + (f2 (ps.length + 2 + (f (ps.length + 1)).length)).length := by have := HN8.out; have := HRL2.out; rw [← e1]; omega
  rw [List.map_cons, List.map_append, HRS.out, List.map_cons, List.map_append, HRS2.out, ← e2, ← e1, ← HST.out]; rfl
 ·have h := HE.out
  simpa using h
end
section
open Go.RowKit
def kEnd : List Ln → Int
 | [] => 11
 | c :: _ => c.1
def aEnd (n : Nat) : List Ln → Nat
 | [] => n
 | _ :: _ => n + 1
def SkIH (n q base : Nat) (lo : Option Addr) (cap : Nat) (ls : List Ln) : Prop :=
 ∀ (p : Bl) (rest : List Ln) (at_ : Nat), p.flat.length ≤ n → p.wf → ls.drop at_ = p.flat ++ rest → z_jj rest →
  SkBlk q base lo cap ls at_ (aEnd (at_ + p.flat.length) rest) (500 - p.flat.length) (kEnd rest) (fun k => z_aM k p)
theorem SkBlk.weak {q base : Nat} {lo : Option Addr} {cap : Nat} {ls : List Ln} {at_ at2 at3 N M : Nat} {k k' : Int} {f : Nat → List Stp} (h : SkBlk q base lo cap ls at_ at2 N k f) (e : at2 = at3) (ek : k = k') (hM : M ≤ N) : SkBlk q base lo cap ls at_ at3 M k' f := by
 subst e ek
 intro w v ps hs hps
 exact h w v ps hs (Nat.le_trans hps hM)
theorem SkInn.congr {q base : Nat} {lo : Option Addr} {cap : Nat} {ls : List Ln} {F at_ at2 at3 N M : Nat} {l l' : Ln} {f g : Nat → List Stp} (h : SkInn q base lo cap ls F at_ at2 N l f) (e : at2 = at3) (el : l = l') (hM : M ≤ N) (hfg : ∀ n, f n = g n) : SkInn q base lo cap ls F at_ at3 M l' g := by
 subst e el
 intro w v ps ao c hs ha hps
 rw [← hfg]
 exact h w v ps ao c hs ha (Nat.le_trans hps hM)
theorem z_g8 (n q base : Nat) (lo : Option Addr) (cap : Nat) (ls : List Ln) (hl : ls.length ≤ 60) (hg : ∀ l ∈ ls, GoodL l) (IH : SkIH n q base lo cap ls)
  (t : Bl) (rest : List Ln) (at_ : Nat) (ht : t.flat.length ≤ n + 1) (hn : z_aS t = true) (ho : z_am (z_au t).1 = true) (hw : t.wf) (hd : ls.drop at_ = t.flat ++ rest) :
  SkInn q base lo cap ls 72 at_ (at_ + z_ai t) (500 - z_ai t) (z_au t) (fun k => z_bZ k t) := by
 have hfl : at_ + t.flat.length ≤ ls.length := by
  have h := congrArg List.length hd
  obtain ⟨hx, _⟩ := z_b2 hd hn
  simp at h; omega
 cases t with
 | nil => cases hn
 | plain l r => have := hw.1; rw [show (z_au (.plain l r)).1 = l.1 from rfl, this] at ho; cases ho
 | one l p e r =>
  have hd1 : ls.drop at_ = l :: (p.flat ++ (e :: (r.flat ++ rest))) := by rw [hd]; simp [Bl.flat]
  obtain ⟨h1, h2, h3⟩ := z_a1 hd1
  simp only [Bl.flat, List.length_cons, List.length_append] at ht hfl
  have hlin : l ∈ ls := List.mem_of_mem_drop (by rw [hd1]; simp : l ∈ ls.drop at_)
  have hgl := (hg l hlin).good
  obtain ⟨hto, hud⟩ := hgl.opens ho
  have ha3 := hgl.args3
  have hB := IH p _ (at_ + 1) (by omega) hw.2.2.2.1 h3 (.inr ⟨e, _, rfl, by rw [hw.2.2.1]; rfl⟩)
  have hsz := z_aV p hw.2.2.2.1
  have hm : ∀ n, (z_aM n p).length ≤ 1000 := fun n => by rw [z_at]; omega
  obtain ⟨kd, dd⟩ := l
  simp only at hto hud ha3
  have hok := hw.1
  rw [z_bX] at hok
  have h9 : kd ≠ 9 := hw.2.1
  by_cases h8 : kd = 8
  ·subst h8
   have h := z_gZ q base lo cap ls at_ _ (500 - z_ai (.one (8, dd) p e r)) (500 - p.flat.length) _ _ dd (by omega) hto hud (by omega) (by omega) (by simp only [z_ai]; omega) hm hB
   refine h.congr (by simp only [aEnd, z_ai]; omega) rfl (Nat.le_refl _) fun k => ?_
   simp only [z_bZ, if_true, z_at]
  ·have hk : kd = 6 ∨ kd = 14 := by
    rcases hok with h | h | h | h
    ·exact .inl h
    ·exact .inr h
    ·exact absurd h h8
    ·exact absurd h h9
   have hC := z_g5 q base lo cap ls (at_ + 1) _ (500 - z_ai (.one (kd, dd) p e r)) (500 - p.flat.length) _ kd dd hk hto hud (by omega) (by omega) (by simp only [z_ai]; omega) hm (hB.weak rfl (show kEnd (e :: (r.flat ++ rest)) = 11 from hw.2.2.1) (Nat.le_refl _))
   have h := z_c0 q base lo cap ls at_ _ _ kd dd _ (by omega) (beq_eq_false_iff_ne.2 h8) (beq_eq_false_iff_ne.2 h9) hC
   refine h.congr (by simp only [aEnd, z_ai]; omega) rfl (Nat.le_refl _) fun k => ?_
   simp only [z_bZ, if_neg h8, z_at]
 | two l p m qq e r =>
  have hd1 : ls.drop at_ = l :: (p.flat ++ (m :: (qq.flat ++ (e :: (r.flat ++ rest))))) := by rw [hd]; simp [Bl.flat]
  obtain ⟨h1, h2, h3⟩ := z_a1 hd1
  have h4 := z_bB h3
  obtain ⟨h5, h6, h7⟩ := z_a1 h4
  simp only [Bl.flat, List.length_cons, List.length_append] at ht hfl
  have hmc : z_ae m.1 = true := by rcases hw.1 with ⟨_, h⟩ | ⟨_, h⟩ <;> rw [h] <;> rfl
  have hec : z_ae e.1 = true := by rw [hw.2.1]; rfl
  have hlin : l ∈ ls := List.mem_of_mem_drop (by rw [hd1]; simp : l ∈ ls.drop at_)
  have hgl := (hg l hlin).good
  obtain ⟨hto, hud⟩ := hgl.opens ho
  have ha3 := hgl.args3
  have hB1 := IH p _ (at_ + 1) (by omega) hw.2.2.1 h3 (.inr ⟨m, _, rfl, hmc⟩)
  have hB2 := IH qq _ (at_ + 1 + p.flat.length + 1) (by omega) hw.2.2.2.1 h7 (.inr ⟨e, _, rfl, hec⟩)
  have hs1 := z_aV p hw.2.2.1
  have hs2 := z_aV qq hw.2.2.2.1
  have hm1 : ∀ n, (z_aM n p).length ≤ p.flat.length := fun n => by rw [z_at]; exact hs1
  have hm2 : ∀ n, (z_aM n qq).length ≤ 1000 := fun n => by rw [z_at]; omega
  obtain ⟨kd, dd⟩ := l
  simp only at hto hud ha3
  rcases hw.1 with ⟨hch, hm7⟩ | ⟨hl9, hm10⟩
  ·have h9 : kd ≠ 9 := fun h => by subst h; cases hch
   have h8 : kd ≠ 8 := fun h => by subst h; cases hch
   have hk := (z_bK kd).1 hch
   have hC := z_hx q base lo cap ls (at_ + 1) _ _ (500 - z_ai (.two (kd, dd) p m qq e r)) (501 - z_ai (.two (kd, dd) p m qq e r)) _ _ _ kd dd hk hto hud (by omega) (by omega) (by simp only [z_ai]; omega) (by omega) p.flat.length (by omega) hm1 hm2 (hB1.weak rfl (show kEnd (m :: _) = 7 from hm7) (by simp only [z_ai]; omega)) (hB2.weak rfl rfl (by simp only [z_ai]; omega))
   have h := z_c0 q base lo cap ls at_ _ _ kd dd _ (by omega) (beq_eq_false_iff_ne.2 h8) (beq_eq_false_iff_ne.2 h9) hC
   refine h.congr (by simp only [aEnd, z_ai]; omega) rfl (Nat.le_refl _) fun k => ?_
   simp only [z_bZ, if_neg h9, z_at]
  ·have hl9' : kd = 9 := hl9
   subst hl9'
   obtain ⟨_, hnm, ha0, _⟩ := hgl.bare (.inl rfl)
   have h := z_hs q base lo cap ls at_ _ _ (500 - z_ai (.two (9, dd) p m qq e r)) (501 - z_ai (.two (9, dd) p m qq e r)) _ _ _ _ dd (by omega) hto hnm ha0 hud (by omega) (by simp only [z_ai]; omega) (by omega) p.flat.length (by omega) hm1 hm2 (hB1.weak rfl rfl (by simp only [z_ai]; omega)) (hB2.weak rfl rfl (by simp only [z_ai]; omega))
   refine h.congr (by simp only [aEnd, z_ai]; omega) rfl (Nat.le_refl _) fun k => ?_
   simp only [z_bZ, if_true, z_at]
end
end Go.Proofs.YtlbjjbolbopfmaaGreatDoor
