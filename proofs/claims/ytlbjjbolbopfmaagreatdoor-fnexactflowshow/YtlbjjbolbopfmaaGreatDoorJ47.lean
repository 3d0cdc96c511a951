import Derived.Test.YtlbjjbolbopfmaaGreatDoorJ46
namespace Go.Proofs.YtlbjjbolbopfmaaGreatDoor
set_option maxHeartbeats 8000000
set_option maxRecDepth 1000000
set_option linter.unusedVariables false
section
open Go.RowKit
theorem z_hd (q base : Nat) (lo : Option Addr) (cap : Nat) (ls : List Ln) (at_ at2 N NI : Nat) (f : Nat → List Stp) (kd : Int) (dd : Bd) (hk : kd = 6 ∨ kd = 14) (hto : dd.to = eS) (hud : dd.undo = eS) (hargs : dd.args.length ≤ 1000) (hN : N ≤ 500) (hNI : N + 1 ≤ NI) (hfl : ∀ n, (f n).length ≤ 1000)
  (H : SkBlk q base lo cap ls at_ at2 NI 11 f) :
  SkInn q base lo cap ls 105 at_ at2 N (kd, dd) (fun n => z_as (kd, dd) ((n + 1 : Nat) : Int) ((n + 1 + (f (n + 1)).length : Nat) : Int) :: f (n + 1)) := by
 intro w v ps ao c hs ha hps
 show Calls Tryz.prog 105 #[.pointer (some ⟨q, 0, none⟩), .agg #[.int .i64 kd, .string dd.to, .string dd.name, .slice ao dd.args.length c, .string dd.undo]] w _
 have HH : Hid (SkBlk q base lo cap ls at_ at2 NI 11 f) := H
 have HFL : Hid (∀ n, (f n).length ≤ 1000) := hfl
 have HST : Hid (∀ a b, (⟨z_cg kd, ⟨#[]⟩, dd.name, dd.args, ⟨#[]⟩, a, b⟩ : Stp) = z_as (kd, dd) a b) := fun a b => by
  show _ = (⟨z_cg kd, dd.to, dd.name, dd.args, dd.undo, a, b⟩ : Stp)
  rw [hto, hud]; rfl
 obtain ⟨W1, hW1⟩ : ∃ W1, W1 = w.alloc (.cells #[.int .i64 kd, .string dd.to, .string dd.name, .slice ao dd.args.length c, .string dd.undo] 49) := ⟨_, rfl⟩
 have hb1 : Below w.heap.size w W1 := by rw [hW1]; exact (Below.refl _ _).alloc (Nat.le_refl _) _
 have HX1 : LBox W1 w.heap.size (kd, dd) ao c := by rw [hW1]; exact heap_alloc_new w _
 have hsz1 : W1.heap.size = w.heap.size + 1 := by rw [hW1]; simp
 have HW1 : Hid (w.alloc (.cells #[.int .i64 kd, .string dd.to, .string dd.name, .slice ao dd.args.length c, .string dd.undo] 49) = W1) := hW1.symm
 have HS1 : Hid (SkSt q base lo cap ls W1 at_ v ps) := hs.below hb1
 have HA1 : Hid (StrsAt 0 W1.heap.size W1 ao dd.args) := (ha.mono (Nat.le_refl _) (Nat.le_of_lt hs.lt)).later hb1
 have HK1 : Hid (Wk q v.ownBlock w W1) := Wk.of_below hb1
 obtain ⟨x0, x1, x2, x3, x4⟩ := HX1.cells
 have hlt1 : w.heap.size < W1.heap.size := by omega
 have hps5 : ps.length ≤ 500 := by omega
 have hpsN : ps.length ≤ N := hps
 clear hs ha H hfl hW1 hb1 hto hud hps hsz1
 have hc14 : ((kd == 14) = false ∧ Hid (z_cg kd = 5)) ∨ ((kd == 14) = true ∧ Hid (z_cg kd = 6)) := by
  rcases hk with h | h <;> rw [h]
  ·exact .inl ⟨rfl, rfl⟩
  ·exact .inr ⟨rfl, rfl⟩
 clear hk
 rcases hc14 with ⟨h14, HCK⟩ | ⟨h14, HCK⟩
 all_goals
  go_enter Tryz.func105, Tryz.ntmps105
  go_wp2_with fail
  rw [HW1.out]
  go_region_held3 (fun wz => wz.cell? ⟨w.heap.size, 0, none⟩ = some (.int .i64 kd) ∧ wz.cell? ⟨w.heap.size, 1, none⟩ = some (.string dd.to) ∧ wz.cell? ⟨w.heap.size, 2, none⟩ = some (.string dd.name) ∧ wz.cell? ⟨w.heap.size, 3, none⟩ = some (.slice ao dd.args.length c) ∧ wz.cell? ⟨w.heap.size, 4, none⟩ = some (.string dd.undo))
   (first | (go_keep; done) | exact HY2.out | exact HY3.out)
   (first
    | (refine z_dP rfl _ _ rfl W1.heap.size rfl (z_dY W1) _ _ dd.args rfl (HA1.out.later ((Below.refl _ _).alloc (Nat.le_refl _) _).drew) (by omega) ?_; intro uo uc W2 hu2 hg2; obtain ⟨HS2, HY2, HK2, HX2, HU2, HAp2, hsz2⟩ := z_hG HS1.out HX1 (z_di hg2) hu2; clear hu2 hg2)
    | (go_at_call 70; refine (z_cP q base lo cap ls at_ v ps ⟨_, ⟨#[]⟩, dd.name, dd.args, ⟨#[]⟩, 0, 0⟩ uo uc _ HS2.out (by omega) HU2.out HAp2.out).mono ?_; rintro e W3 ⟨rfl, g3, vc3, h3, hk3, hr3⟩; obtain ⟨HS3, HY3, HK3, HX3⟩ := z_jS HK1.out HK2.out HS2.out HX2.out h3 hk3 hr3; clear h3 hk3 hr3))
  all_goals
   obtain ⟨⟨u5, hu5⟩, hf5⟩ := z_gx HS3.out 5 (by decide)
   have c2 := HS3.out.c2
   have fq := HS3.out.fz 2
   have hq3 := HS3.out.lt
   obtain ⟨y0, y1, y2, y3, y4⟩ := HX3.out.cells
   have hi0 : (0 : Int) ≤ ps.length := by omega
   have hi1 : (ps.length : Int) < (ps.length : Int) + 1 := by omega
   obtain ⟨h4, hk4⟩ := z_ff HS3.out 5 (by decide) (.int .i64 ((ps.length + 1 : Nat) : Int)) (setA (z_as (kd, dd) 0 0) ((ps.length + 1 : Nat) : Int)) (by rw [← HST.out, HCK.out]; rfl) (by rw [← HST.out, HCK.out]; rfl)
   rw [show ((ps.length + 1 : Nat) : Int) = (ps.length : Int) + 1 by omega] at h4 hk4
   have HS4 : Hid (SkSt q base lo cap ls _ at_ _ _) := h4
   have HK4 : Hid (Wk q v.ownBlock w _ ∧ RowTo w v (.slice (some ⟨g3, 0, none⟩) (ps.length + 1) vc3)) := ⟨HK3.out.1.trans hk4 HK3.out.2.or, HK3.out.2⟩
   clear h4 hk4 HS2 HY2 HK2 HX2 HU2 HAp2 hsz2 HY3
   go_wp2_with fail
   refine (HH.out _ _ _ HS4.out (by simp; omega)).mono ?_
   rintro e W5 ⟨rfl, v5, rs, hrs, h5, hk5, hr5⟩
   have hn4 : (ps ++ [(setA (z_as (kd, dd) 0 0) ((ps.length : Int) + 1), Value.slice uo dd.args.length uc)]).length = ps.length + 1 := by simp
   rw [hn4] at hrs
   have HRS : Hid (rs.map (·.1) = f (ps.length + 1)) := hrs
   have hrl : rs.length = (f (ps.length + 1)).length := by rw [← hrs]; simp
   have HRL : Hid (rs.length = (f (ps.length + 1)).length) := hrl
   have hrl2 : rs.length ≤ 1000 := by rw [hrl]; exact HFL.out _
   obtain ⟨n5, hn5⟩ : ∃ n5, n5 = ps.length + 1 + rs.length := ⟨_, rfl⟩
   have HN5 : Hid (n5 = ps.length + 1 + rs.length) := hn5
   have e5 : (ps ++ [(setA (z_as (kd, dd) 0 0) ((ps.length : Int) + 1), Value.slice uo dd.args.length uc)]) ++ rs = ps ++ (setA (z_as (kd, dd) 0 0) ((ps.length : Int) + 1), Value.slice uo dd.args.length uc) :: rs := by simp
   rw [e5] at h5
   have HK5 : Hid (Wk q v.ownBlock w W5 ∧ RowTo w v v5) := ⟨HK4.out.1.trans hk5 HK4.out.2.or, HK4.out.2.trans hr5 HK4.out.1.size⟩
   obtain ⟨g5, vc5, rfl, hle5, hlt5, hqg, ⟨u6, hu6⟩, hf6⟩ := z_eO h5 n5 (by simp; omega) 6 (by decide)
   obtain ⟨h6, hk6⟩ := z_ff h5 6 (by decide) (.int .i64 (n5 : Int)) (setB (setA (z_as (kd, dd) 0 0) ((ps.length : Int) + 1)) (n5 : Int)) rfl rfl
   have HE : Hid (SkSt q base lo cap ls _ at2 _ _) := h6
   have HK6 : Hid (Wk q v.ownBlock w _) := HK5.out.1.trans hk6 HK5.out.2.or
   have d2 := h5.c2
   have hq5 := h5.lt
   have hj1 : (ps.length : Int) < n5 := by omega
   have hn5b : n5 ≤ 2000 := by omega
   clear h6 hk6 h5 hk5 hr5 hrs hrl hn5 e5 hn4 u5 hu5 hf5 c2 fq hq3 HS4 HK4 HX3 HS3 HK3 y0 y1 y2 y3 y4 x0 x1 x2 x3 x4 HX1 HW1
   go_wp2_with fail
   go_region
   all_goals
    go_wp2_with fail
    refine bodyPost_ret (v := .tuple #[]) (by simp [results, Tryz.results105, go_sem]) rfl ?_
    refine ⟨rfl, _, (setB (setA (z_as (kd, dd) 0 0) ((ps.length : Int) + 1)) (n5 : Int), Value.slice uo dd.args.length uc) :: rs, ?_, HE.out.below (Below.refl _ _).drew, HK6.out.trans (Wk.of_below (Below.refl _ _).drew) HK5.out.2.or, HK5.out.2⟩
    rw [List.map_cons, HRS.out, HN5.out, HRL.out]; rfl
end
section
open Go.RowKit
theorem z_cX (q base : Nat) (lo : Option Addr) (cap : Nat) (ls : List Ln) (at_ at2 N : Nat) (kd : Int) (dd : Bd) (g : Nat → List Stp) (hat : at_ ≤ 1000) (h8 : (kd == 8) = false) (h9 : (kd == 9) = false)
  (H : SkInn q base lo cap ls 105 (at_ + 1) at2 N (kd, dd) g) : SkInn q base lo cap ls 72 at_ at2 N (kd, dd) g := by
 intro w v ps ao c hs ha hps
 show Calls Tryz.prog 72 #[.pointer (some ⟨q, 0, none⟩), .agg #[.int .i64 kd, .string dd.to, .string dd.name, .slice ao dd.args.length c, .string dd.undo]] w _
 have HH : Hid (SkInn q base lo cap ls 105 (at_ + 1) at2 N (kd, dd) g) := H
 obtain ⟨WA, hWA⟩ : ∃ WA, WA = w.setCell ⟨q, 1, none⟩ (.int .i64 ((at_ : Int) + 1)) := ⟨_, rfl⟩
 obtain ⟨W1, hW1⟩ : ∃ W1, W1 = WA.alloc (.cells #[.int .i64 kd, .string dd.to, .string dd.name, .slice ao dd.args.length c, .string dd.undo] 49) := ⟨_, rfl⟩
 have hszA : WA.heap.size = w.heap.size := by rw [hWA]; simp [World.setCell]
 have hb1 : Below WA.heap.size WA W1 := by rw [hW1]; exact (Below.refl _ _).alloc (Nat.le_refl _) _
 have HX1 : LBox W1 w.heap.size (kd, dd) ao c := by rw [hW1, ← hszA]; exact heap_alloc_new WA _
 have HWE : Hid ((w.setCell ⟨q, 1, none⟩ (.int .i64 ((at_ : Int) + 1))).alloc (.cells #[.int .i64 kd, .string dd.to, .string dd.name, .slice ao dd.args.length c, .string dd.undo] 49) = W1) := by show _ = _; rw [← hWA]; exact hW1.symm
 have hsx := hs.set1 (at_ + 1)
 rw [show ((at_ + 1 : Nat) : Int) = (at_ : Int) + 1 by omega, ← hWA] at hsx
 have hs1 := hsx.below hb1
 have HS1 : Hid (SkSt q base lo cap ls W1 (at_ + 1) v ps) := hs1
 have HAq : Hid (StrsAt 0 q W1 ao dd.args) := by
  have h := ha.setCell (p := ⟨q, 1, none⟩) (.inr (Nat.le_refl q)) (.int .i64 ((at_ : Int) + 1))
  rw [← hWA] at h
  exact h.below (hb1.mono (by have := hs.lt; omega))
 have HA1 : Hid (StrsAt 0 W1.heap.size W1 ao dd.args) := HAq.out.mono (Nat.le_refl _) (Nat.le_of_lt hs1.lt)
 have HK1 : Hid (Wk q v.ownBlock w W1) := by
  have h := Wk.of_set (q := q) (row := v.ownBlock) (w := w) 1 (.int .i64 ((at_ : Int) + 1))
  rw [← hWA] at h
  exact h.trans (Wk.of_below hb1) (.inl rfl)
 have hpq : ¬ w.heap.size = q := by have := hs.lt; omega
 have hpq2 : ¬ q = w.heap.size := by have := hs.lt; omega
 have c1 := hs.c1
 have fq1 := hs.fz 1
 have hq1 := hs.lt
 have hlt1 : w.heap.size < W1.heap.size := (Array.getElem?_eq_some_iff.1 HX1).1
 have HPS : Hid (ps.length ≤ N) := hps
 clear hs ha H hW1 hWA hszA hb1 hps hs1 hsx HX1
 go_enter Tryz.func72, Tryz.ntmps72
 go_wp2_with fail
 rw [HWE.out]
 refine (HH.out _ v ps ao c HS1.out HAq.out HPS.out).mono ?_
 rintro e W5 ⟨rfl, v5, rs, hrs, h5, hk5, hr5⟩
 have HE : Hid (rs.map (·.1) = g ps.length ∧ SkSt q base lo cap ls W5 at2 v5 (ps ++ rs) ∧ Wk q v.ownBlock w W5 ∧ RowTo w v v5) := ⟨hrs, h5, HK1.out.trans hk5 (.inl rfl), RowTo.refl.trans hr5 HK1.out.size⟩
 clear hrs h5 hk5 hr5
 go_wp2
 go_end0
 exact ⟨rfl, v5, rs, HE.out⟩
end
section
open Go.RowKit
theorem z_hc (q base : Nat) (lo : Option Addr) (cap : Nat) (ls : List Ln) (at_ at2 N NI : Nat) (f : Nat → List Stp) (k2 : Int) (dd : Bd) (hat : at_ ≤ 1000) (hto : dd.to = eS) (hud : dd.undo = eS) (hargs : dd.args.length ≤ 1000) (hN : N ≤ 500) (hNI : N + 1 ≤ NI) (hfl : ∀ n, (f n).length ≤ 1000)
  (H : SkBlk q base lo cap ls (at_ + 1) at2 NI k2 f) :
  SkInn q base lo cap ls 72 at_ at2 N (8, dd) (fun n => z_as (8, dd) ((n + 1 : Nat) : Int) ((n + 2 + (f (n + 1)).length : Nat) : Int) :: (f (n + 1) ++ [z_ap 7 (n : Int)])) := by
 intro w v ps ao c hs ha hps
 show Calls Tryz.prog 72 #[.pointer (some ⟨q, 0, none⟩), .agg #[.int .i64 8, .string dd.to, .string dd.name, .slice ao dd.args.length c, .string dd.undo]] w _
 have HH : Hid (SkBlk q base lo cap ls (at_ + 1) at2 NI k2 f) := H
 have HFL : Hid (∀ n, (f n).length ≤ 1000) := hfl
 have HST : Hid (∀ a b, (⟨z_cg 8, ⟨#[]⟩, dd.name, dd.args, ⟨#[]⟩, a, b⟩ : Stp) = z_as (8, dd) a b) := fun a b => by
  show _ = (⟨z_cg 8, dd.to, dd.name, dd.args, dd.undo, a, b⟩ : Stp)
  rw [hto, hud]; rfl
 obtain ⟨WA, hWA⟩ : ∃ WA, WA = w.setCell ⟨q, 1, none⟩ (.int .i64 ((at_ : Int) + 1)) := ⟨_, rfl⟩
 obtain ⟨W1, hW1⟩ : ∃ W1, W1 = WA.alloc (.cells #[.int .i64 8, .string dd.to, .string dd.name, .slice ao dd.args.length c, .string dd.undo] 49) := ⟨_, rfl⟩
 have hszA : WA.heap.size = w.heap.size := by rw [hWA]; simp [World.setCell]
 have hb1 : Below WA.heap.size WA W1 := by rw [hW1]; exact (Below.refl _ _).alloc (Nat.le_refl _) _
 have HX1 : LBox W1 w.heap.size (8, dd) ao c := by rw [hW1, ← hszA]; exact heap_alloc_new WA _
 have HWE : Hid ((w.setCell ⟨q, 1, none⟩ (.int .i64 ((at_ : Int) + 1))).alloc (.cells #[.int .i64 8, .string dd.to, .string dd.name, .slice ao dd.args.length c, .string dd.undo] 49) = W1) := by show _ = _; rw [← hWA]; exact hW1.symm
 have hsx := hs.set1 (at_ + 1)
 rw [show ((at_ + 1 : Nat) : Int) = (at_ : Int) + 1 by omega, ← hWA] at hsx
 have hs1 := hsx.below hb1
 have HS1 : Hid (SkSt q base lo cap ls W1 (at_ + 1) v ps) := hs1
 have HAq : Hid (StrsAt 0 q W1 ao dd.args) := by
  have h := ha.setCell (p := ⟨q, 1, none⟩) (.inr (Nat.le_refl q)) (.int .i64 ((at_ : Int) + 1))
  rw [← hWA] at h
  exact h.below (hb1.mono (by have := hs.lt; omega))
 have HA1 : Hid (StrsAt 0 W1.heap.size W1 ao dd.args) := HAq.out.mono (Nat.le_refl _) (Nat.le_of_lt hs1.lt)
 have HK1 : Hid (Wk q v.ownBlock w W1) := by
  have h := Wk.of_set (q := q) (row := v.ownBlock) (w := w) 1 (.int .i64 ((at_ : Int) + 1))
  rw [← hWA] at h
  exact h.trans (Wk.of_below hb1) (.inl rfl)
 have hpq : ¬ w.heap.size = q := by have := hs.lt; omega
 have hpq2 : ¬ q = w.heap.size := by have := hs.lt; omega
 have c1 := hs.c1
 have fq1 := hs.fz 1
 have hq1 := hs.lt
 have hlt1 : w.heap.size < W1.heap.size := (Array.getElem?_eq_some_iff.1 HX1).1
 have hps5 : ps.length ≤ 500 := by omega
 have hpsN : ps.length ≤ N := hps
 clear hs ha H hfl hW1 hWA hszA hb1 hto hud hps hs1 hsx
 go_enter Tryz.func72, Tryz.ntmps72
 go_wp2_with fail
 rw [HWE.out]
 obtain ⟨x0, x1, x2, x3, x4⟩ := HX1.cells
 clear c1 fq1 hq1 HWE HAq
 go_region_held3 (fun wz => wz.cell? ⟨w.heap.size, 0, none⟩ = some (.int .i64 8) ∧ wz.cell? ⟨w.heap.size, 1, none⟩ = some (.string dd.to) ∧ wz.cell? ⟨w.heap.size, 2, none⟩ = some (.string dd.name) ∧ wz.cell? ⟨w.heap.size, 3, none⟩ = some (.slice ao dd.args.length c) ∧ wz.cell? ⟨w.heap.size, 4, none⟩ = some (.string dd.undo))
  (first | (go_keep; done) | exact HY2.out | exact HY3.out)
  (first
   | (refine z_dP rfl _ _ rfl W1.heap.size rfl (z_dY W1) _ _ dd.args rfl (HA1.out.later ((Below.refl _ _).alloc (Nat.le_refl _) _).drew) (by omega) ?_; intro uo uc W2 hu2 hg2; obtain ⟨HS2, HY2, HK2, HX2, HU2, HAp2, hsz2⟩ := z_hG HS1.out HX1 (z_di hg2) hu2; clear hu2 hg2)
   | (go_at_call 70; refine (z_cP q base lo cap ls (at_ + 1) v ps ⟨_, ⟨#[]⟩, dd.name, dd.args, ⟨#[]⟩, 0, 0⟩ uo uc _ HS2.out (by omega) HU2.out HAp2.out).mono ?_; rintro e W3 ⟨rfl, g3, vc3, h3, hk3, hr3⟩; obtain ⟨HS3, HY3, HK3, HX3⟩ := z_jS HK1.out HK2.out HS2.out HX2.out h3 hk3 hr3; clear h3 hk3 hr3))
 all_goals
  obtain ⟨⟨u5, hu5⟩, hf5⟩ := z_gx HS3.out 5 (by decide)
  have c2 := HS3.out.c2
  have fq := HS3.out.fz 2
  have hq3 := HS3.out.lt
  obtain ⟨y0, y1, y2, y3, y4⟩ := HX3.out.cells
  have hi0 : (0 : Int) ≤ ps.length := by omega
  have hi1 : (ps.length : Int) < (ps.length : Int) + 1 := by omega
  obtain ⟨h4, hk4⟩ := z_ff HS3.out 5 (by decide) (.int .i64 ((ps.length + 1 : Nat) : Int)) (setA (z_as (8, dd) 0 0) ((ps.length + 1 : Nat) : Int)) (by rw [← HST.out]; rfl) (by rw [← HST.out]; rfl)
  rw [show ((ps.length + 1 : Nat) : Int) = (ps.length : Int) + 1 by omega] at h4 hk4
  have HS4 : Hid (SkSt q base lo cap ls _ (at_ + 1) _ _) := h4
  have HK4 : Hid (Wk q v.ownBlock w _ ∧ RowTo w v (.slice (some ⟨g3, 0, none⟩) (ps.length + 1) vc3)) := ⟨HK3.out.1.trans hk4 HK3.out.2.or, HK3.out.2⟩
  clear h4 hk4 HS2 HY2 HK2 HX2 HU2 HAp2 hsz2 HY3
  go_wp2_with fail
  refine (HH.out _ _ _ HS4.out (by simp; omega)).mono ?_
  rintro e W5 ⟨rfl, v5, rs, hrs, h5, hk5, hr5⟩
  have hn4 : (ps ++ [(setA (z_as (8, dd) 0 0) ((ps.length : Int) + 1), Value.slice uo dd.args.length uc)]).length = ps.length + 1 := by simp
  rw [hn4] at hrs
  have HRS : Hid (rs.map (·.1) = f (ps.length + 1)) := hrs
  have hrl : rs.length = (f (ps.length + 1)).length := by rw [← hrs]; simp
  have HRL : Hid (rs.length = (f (ps.length + 1)).length) := hrl
  have hrl2 : rs.length ≤ 1000 := by rw [hrl]; exact HFL.out _
  obtain ⟨n5, hn5⟩ : ∃ n5, n5 = ps.length + 1 + rs.length := ⟨_, rfl⟩
  have HN5 : Hid (n5 = ps.length + 1 + rs.length) := hn5
  have e5 : (ps ++ [(setA (z_as (8, dd) 0 0) ((ps.length : Int) + 1), Value.slice uo dd.args.length uc)]) ++ rs = ps ++ (setA (z_as (8, dd) 0 0) ((ps.length : Int) + 1), Value.slice uo dd.args.length uc) :: rs := by simp
  rw [e5] at h5
  have HK5 : Hid (Wk q v.ownBlock w W5 ∧ RowTo w v v5) := ⟨HK4.out.1.trans hk5 HK4.out.2.or, HK4.out.2.trans hr5 HK4.out.1.size⟩
  have HS5 : Hid (SkSt q base lo cap ls W5 at2 v5 (ps ++ (setA (z_as (8, dd) 0 0) ((ps.length : Int) + 1), Value.slice uo dd.args.length uc) :: rs)) := h5
  have hn5b : n5 ≤ 2000 := by omega
  have hpl : ps.length < n5 := by omega
  have HNL : Hid ((ps ++ (setA (z_as (8, dd) 0 0) ((ps.length : Int) + 1), Value.slice uo dd.args.length uc) :: rs).length = n5) := by show _ = _; have := HN5.out; simp; omega
  have hq5 := h5.lt
  have hqb := h5.qb
  clear h5 hk5 hr5 hrs hrl hn5 e5 hn4 u5 hu5 hf5 c2 fq hq3 HS4 HK4 HX3 HS3 HK3 y0 y1 y2 y3 y4 x0 x1 x2 x3 x4 HX1
  go_wp2_with fail
  refine (z_cP q base lo cap ls at2 v5 _ ⟨7, ⟨#[]⟩, ⟨#[]⟩, [], ⟨#[]⟩, (ps.length : Int), 0⟩ none 0 _ HS5.out (by rw [HNL.out]; omega) (World.ownsRow_nil _ _ _ _) (fun x hx k hk => by simp [Value.ownBlock])).mono ?_
  rintro e W6 ⟨rfl, g6, vc6, h6, hk6, hr6⟩
  rw [HNL.out] at h6 hr6
  have e6 : (ps ++ (setA (z_as (8, dd) 0 0) ((ps.length : Int) + 1), Value.slice uo dd.args.length uc) :: rs) ++ [((⟨7, ⟨#[]⟩, ⟨#[]⟩, [], ⟨#[]⟩, (ps.length : Int), 0⟩ : Stp), Value.slice none 0 0)] = ps ++ (setA (z_as (8, dd) 0 0) ((ps.length : Int) + 1), Value.slice uo dd.args.length uc) :: (rs ++ [((⟨7, ⟨#[]⟩, ⟨#[]⟩, [], ⟨#[]⟩, (ps.length : Int), 0⟩ : Stp), Value.slice none 0 0)]) := by simp
  replace h6 : SkSt q base lo cap ls W6 at2 (.slice (some ⟨g6, 0, none⟩) (n5 + 1) vc6) ((ps ++ (setA (z_as (8, dd) 0 0) ((ps.length : Int) + 1), Value.slice uo dd.args.length uc) :: rs) ++ [((⟨7, ⟨#[]⟩, ⟨#[]⟩, [], ⟨#[]⟩, (ps.length : Int), 0⟩ : Stp), Value.slice none 0 0)]) := h6
  rw [e6] at h6
  have HK6 : Hid (Wk q v.ownBlock w W6 ∧ RowTo w v (.slice (some ⟨g6, 0, none⟩) (n5 + 1) vc6)) := ⟨HK5.out.1.trans hk6 HK5.out.2.or, HK5.out.2.trans hr6 HK5.out.1.size⟩
  obtain ⟨_, _, ee, hle6, hlt6, hqg6, ⟨u6, hu6⟩, hf6⟩ := z_eO h6 (n5 + 1) (by have := HN5.out; simp; omega) 6 (by decide)
  cases ee
  obtain ⟨h7, hk7⟩ := z_ff h6 6 (by decide) (.int .i64 ((n5 : Int) + 1)) (setB (setA (z_as (8, dd) 0 0) ((ps.length : Int) + 1)) ((n5 : Int) + 1)) rfl rfl
  have HE : Hid (SkSt q base lo cap ls _ at2 _ _) := h7
  have HK7 : Hid (Wk q v.ownBlock w _) := HK6.out.1.trans hk7 HK6.out.2.or
  have d2 := h6.c2
  have hq6 := h6.lt
  have hj1 : (ps.length : Int) < (n5 : Int) + 1 := by omega
  clear h7 hk7 h6 hk6 hr6 e6 HS5 HK5
  go_wp2_with fail
  go_region
  all_goals
   go_wp2_with fail
   go_end0
   refine ⟨rfl, _, (setB (setA (z_as (8, dd) 0 0) ((ps.length : Int) + 1)) ((n5 : Int) + 1), Value.slice uo dd.args.length uc) :: (rs ++ [((⟨7, ⟨#[]⟩, ⟨#[]⟩, [], ⟨#[]⟩, (ps.length : Int), 0⟩ : Stp), Value.slice none 0 0)]), ?_, HE.out.below (Below.refl _ _).drew, HK7.out.trans (Wk.of_below (Below.refl _ _).drew) HK6.out.2.or, HK6.out.2⟩
   have e1 : n5 + 1 = ps.length + 2 + (f (ps.length + 1)).length := by have := HN5.out; have := HRL.out; omega
   rw [List.map_cons, List.map_append, HRS.out, ← e1]; rfl
end
section
open Go.RowKit
theorem z_gT (q base : Nat) (lo : Option Addr) (cap : Nat) (ls : List Ln) (at_ at2 at3 N NI : Nat) (k1 k2 : Int) (f f2 : Nat → List Stp) (dd : Bd) (hat : at_ ≤ 1000) (hto : dd.to = eS) (hnm : dd.name = eS) (hargs : dd.args = []) (hud : dd.undo = eS) (hN : N ≤ 500) (hNI : N + 1 ≤ NI) (hNI2 : NI ≤ 100000) (m : Nat) (hm : m ≤ 400) (hfl : ∀ n, (f n).length ≤ m) (hfl2 : ∀ n, (f2 n).length ≤ 1000)
  (H : SkBlk q base lo cap ls (at_ + 1) at2 NI k1 f) (H2 : SkBlk q base lo cap ls at2 at3 (NI + m + 1) k2 f2) :
  SkInn q base lo cap ls 72 at_ at3 N (9, dd) (fun n => z_as (9, dd) ((n + 1 : Nat) : Int) ((n + 2 + (f (n + 1)).length : Nat) : Int) :: (f (n + 1) ++ z_ap 9 ((n + 3 + (f (n + 1)).length + (f2 (n + 2 + (f (n + 1)).length)).length : Nat) : Int) :: (f2 (n + 2 + (f (n + 1)).length) ++ [z_ap 9 ((n + 3 + (f (n + 1)).length + (f2 (n + 2 + (f (n + 1)).length)).length : Nat) : Int)]))) := by
 intro w v ps ao c hs ha hps
 show Calls Tryz.prog 72 #[.pointer (some ⟨q, 0, none⟩), .agg #[.int .i64 9, .string dd.to, .string dd.name, .slice ao dd.args.length c, .string dd.undo]] w _
 have HH : Hid (SkBlk q base lo cap ls (at_ + 1) at2 NI k1 f) := H
 have HH2 : Hid (SkBlk q base lo cap ls at2 at3 (NI + m + 1) k2 f2) := H2
 have HFL : Hid (∀ n, (f n).length ≤ m) := hfl
 have HFL2 : Hid (∀ n, (f2 n).length ≤ 1000) := hfl2
 have HST : Hid (∀ a b, (⟨8, ⟨#[]⟩, ⟨#[]⟩, [], ⟨#[]⟩, a, b⟩ : Stp) = z_as (9, dd) a b) := fun a b => by
  show _ = (⟨z_cg 9, dd.to, dd.name, dd.args, dd.undo, a, b⟩ : Stp)
  rw [hto, hud, hnm, hargs]; rfl
 obtain ⟨WA, hWA⟩ : ∃ WA, WA = w.setCell ⟨q, 1, none⟩ (.int .i64 ((at_ : Int) + 1)) := ⟨_, rfl⟩
 obtain ⟨W1, hW1⟩ : ∃ W1, W1 = WA.alloc (.cells #[.int .i64 9, .string dd.to, .string dd.name, .slice ao dd.args.length c, .string dd.undo] 49) := ⟨_, rfl⟩
 have hszA : WA.heap.size = w.heap.size := by rw [hWA]; simp [World.setCell]
 have hb1 : Below WA.heap.size WA W1 := by rw [hW1]; exact (Below.refl _ _).alloc (Nat.le_refl _) _
 have HX1 : LBox W1 w.heap.size (9, dd) ao c := by rw [hW1, ← hszA]; exact heap_alloc_new WA _
 have HWE : Hid ((w.setCell ⟨q, 1, none⟩ (.int .i64 ((at_ : Int) + 1))).alloc (.cells #[.int .i64 9, .string dd.to, .string dd.name, .slice ao dd.args.length c, .string dd.undo] 49) = W1) := by show _ = _; rw [← hWA]; exact hW1.symm
 have hsx := hs.set1 (at_ + 1)
 rw [show ((at_ + 1 : Nat) : Int) = (at_ : Int) + 1 by omega, ← hWA] at hsx
 have hs1 := hsx.below hb1
 have HS1 : Hid (SkSt q base lo cap ls W1 (at_ + 1) v ps) := hs1
 have HAq : Hid (StrsAt 0 q W1 ao dd.args) := by
  have h := ha.setCell (p := ⟨q, 1, none⟩) (.inr (Nat.le_refl q)) (.int .i64 ((at_ : Int) + 1))
  rw [← hWA] at h
  exact h.below (hb1.mono (by have := hs.lt; omega))
 have HA1 : Hid (StrsAt 0 W1.heap.size W1 ao dd.args) := HAq.out.mono (Nat.le_refl _) (Nat.le_of_lt hs1.lt)
 have HK1 : Hid (Wk q v.ownBlock w W1) := by
  have h := Wk.of_set (q := q) (row := v.ownBlock) (w := w) 1 (.int .i64 ((at_ : Int) + 1))
  rw [← hWA] at h
  exact h.trans (Wk.of_below hb1) (.inl rfl)
 have hpq : ¬ w.heap.size = q := by have := hs.lt; omega
 have hpq2 : ¬ q = w.heap.size := by have := hs.lt; omega
 have c1 := hs.c1
 have fq1 := hs.fz 1
 have hq1 := hs.lt
 have hlt1 : w.heap.size < W1.heap.size := (Array.getElem?_eq_some_iff.1 HX1).1
 have hps5 : ps.length ≤ 500 := by omega
 have hpsN : ps.length ≤ N := hps
 have hps2 : ps.length ≤ 100000 := by omega
 clear hs ha H H2 hfl hfl2 hW1 hWA hszA hb1 hto hud hnm hargs hps hs1 hsx HX1 HA1 HAq
 go_enter Tryz.func72, Tryz.ntmps72
 go_wp2_with fail
 rw [HWE.out]
 refine (z_cP q base lo cap ls (at_ + 1) v ps ⟨8, ⟨#[]⟩, ⟨#[]⟩, [], ⟨#[]⟩, 0, 0⟩ none 0 _ HS1.out (by omega) (World.ownsRow_nil _ _ _ _) (fun x hx k hk => by simp [Value.ownBlock])).mono ?_
 rintro e W3 ⟨rfl, g3, vc3, h3, hk3, hr3⟩
 replace h3 : SkSt q base lo cap ls W3 (at_ + 1) (.slice (some ⟨g3, 0, none⟩) (ps.length + 1) vc3) (ps ++ [((⟨8, ⟨#[]⟩, ⟨#[]⟩, [], ⟨#[]⟩, 0, 0⟩ : Stp), Value.slice none 0 0)]) := h3
 have HK3 : Hid (Wk q v.ownBlock w W3 ∧ RowTo w v (.slice (some ⟨g3, 0, none⟩) (ps.length + 1) vc3)) := ⟨HK1.out.trans hk3 (.inl rfl), RowTo.refl.trans hr3 HK1.out.size⟩
 obtain ⟨⟨u5, hu5⟩, hf5⟩ := z_gx h3 5 (by decide)
 have c2 := h3.c2
 have fq := h3.fz 2
 have hq3 := h3.lt
 have hi0 : (0 : Int) ≤ ps.length := by omega
 have hi1 : (ps.length : Int) < (ps.length : Int) + 1 := by omega
 obtain ⟨h4, hk4⟩ := z_ff h3 5 (by decide) (.int .i64 ((ps.length : Int) + 1)) ((⟨8, ⟨#[]⟩, ⟨#[]⟩, [], ⟨#[]⟩, (ps.length : Int) + 1, 0⟩ : Stp), Value.slice none 0 0).1 rfl rfl
 have HS4 : Hid (SkSt q base lo cap ls _ (at_ + 1) _ (ps ++ [((⟨8, ⟨#[]⟩, ⟨#[]⟩, [], ⟨#[]⟩, (ps.length : Int) + 1, 0⟩ : Stp), Value.slice none 0 0)])) := h4
 have HK4 : Hid (Wk q v.ownBlock w _ ∧ RowTo w v (.slice (some ⟨g3, 0, none⟩) (ps.length + 1) vc3)) := ⟨HK3.out.1.trans hk4 HK3.out.2.or, HK3.out.2⟩
 clear h4 hk4 h3 hk3 hr3 c1 fq1 HWE HS1
 go_wp2_with fail
 refine (HH.out _ _ _ HS4.out (by simp; omega)).mono ?_
 rintro e W5 ⟨rfl, v5, rs, hrs, h5, hk5, hr5⟩
 have hn4 : (ps ++ [((⟨8, ⟨#[]⟩, ⟨#[]⟩, [], ⟨#[]⟩, (ps.length : Int) + 1, 0⟩ : Stp), Value.slice none 0 0)]).length = ps.length + 1 := by simp
 rw [hn4] at hrs
 have HRS : Hid (rs.map (·.1) = f (ps.length + 1)) := hrs
 have hrl : rs.length = (f (ps.length + 1)).length := by rw [← hrs]; simp
 have HRL : Hid (rs.length = (f (ps.length + 1)).length) := hrl
 have hrl2 : rs.length ≤ m := by rw [hrl]; exact HFL.out _
 obtain ⟨n5, hn5⟩ : ∃ n5, n5 = ps.length + 1 + rs.length := ⟨_, rfl⟩
 have HN5 : Hid (n5 = ps.length + 1 + rs.length) := hn5
 have e5 : (ps ++ [((⟨8, ⟨#[]⟩, ⟨#[]⟩, [], ⟨#[]⟩, (ps.length : Int) + 1, 0⟩ : Stp), Value.slice none 0 0)]) ++ rs = ps ++ ((⟨8, ⟨#[]⟩, ⟨#[]⟩, [], ⟨#[]⟩, (ps.length : Int) + 1, 0⟩ : Stp), Value.slice none 0 0) :: rs := by simp
 rw [e5] at h5
 have HK5 : Hid (Wk q v.ownBlock w W5 ∧ RowTo w v v5) := ⟨HK4.out.1.trans hk5 HK4.out.2.or, HK4.out.2.trans hr5 HK4.out.1.size⟩
 have HS5 : Hid (SkSt q base lo cap ls W5 at2 v5 (ps ++ ((⟨8, ⟨#[]⟩, ⟨#[]⟩, [], ⟨#[]⟩, (ps.length : Int) + 1, 0⟩ : Stp), Value.slice none 0 0) :: rs)) := h5
 have hn5b : n5 ≤ 2000 := by omega
 have hpl : ps.length < n5 := by omega
 have HNL : Hid ((ps ++ ((⟨8, ⟨#[]⟩, ⟨#[]⟩, [], ⟨#[]⟩, (ps.length : Int) + 1, 0⟩ : Stp), Value.slice none 0 0) :: rs).length = n5) := by show _ = _; have := HN5.out; simp; omega
 have hq5 := h5.lt
 have hqb := h5.qb
 clear h5 hk5 hr5 hrs hrl hn5 e5 hn4 u5 hu5 hf5 c2 fq hq3 HS4 HK4 HK3
 go_wp2_with fail
 refine (z_cP q base lo cap ls at2 v5 _ ⟨9, ⟨#[]⟩, ⟨#[]⟩, [], ⟨#[]⟩, 0, 0⟩ none 0 _ HS5.out (by rw [HNL.out]; omega) (World.ownsRow_nil _ _ _ _) (fun x hx k hk => by simp [Value.ownBlock])).mono ?_
 rintro e W6 ⟨rfl, g6, vc6, h6, hk6, hr6⟩
 rw [HNL.out] at h6 hr6 ⊢
 have e6 : (ps ++ ((⟨8, ⟨#[]⟩, ⟨#[]⟩, [], ⟨#[]⟩, (ps.length : Int) + 1, 0⟩ : Stp), Value.slice none 0 0) :: rs) ++ [((⟨9, ⟨#[]⟩, ⟨#[]⟩, [], ⟨#[]⟩, 0, 0⟩ : Stp), Value.slice none 0 0)] = ps ++ ((⟨8, ⟨#[]⟩, ⟨#[]⟩, [], ⟨#[]⟩, (ps.length : Int) + 1, 0⟩ : Stp), Value.slice none 0 0) :: (rs ++ [((⟨9, ⟨#[]⟩, ⟨#[]⟩, [], ⟨#[]⟩, 0, 0⟩ : Stp), Value.slice none 0 0)]) := by simp
 replace h6 : SkSt q base lo cap ls W6 at2 (.slice (some ⟨g6, 0, none⟩) (n5 + 1) vc6) ((ps ++ ((⟨8, ⟨#[]⟩, ⟨#[]⟩, [], ⟨#[]⟩, (ps.length : Int) + 1, 0⟩ : Stp), Value.slice none 0 0) :: rs) ++ [((⟨9, ⟨#[]⟩, ⟨#[]⟩, [], ⟨#[]⟩, 0, 0⟩ : Stp), Value.slice none 0 0)]) := h6
 rw [e6] at h6
 have HK6 : Hid (Wk q v.ownBlock w W6 ∧ RowTo w v (.slice (some ⟨g6, 0, none⟩) (n5 + 1) vc6)) := ⟨HK5.out.1.trans hk6 HK5.out.2.or, HK5.out.2.trans hr6 HK5.out.1.size⟩
 obtain ⟨_, _, ee, hle6, hlt6, hqg6, ⟨u6, hu6⟩, hf6⟩ := z_eO h6 (n5 + 1) (by have := HN5.out; simp; omega) 6 (by decide)
 cases ee
 obtain ⟨h7, hk7⟩ := z_ff h6 6 (by decide) (.int .i64 ((n5 : Int) + 1)) ((⟨8, ⟨#[]⟩, ⟨#[]⟩, [], ⟨#[]⟩, (ps.length : Int) + 1, (n5 : Int) + 1⟩ : Stp), Value.slice none 0 0).1 rfl rfl
 have HS7 : Hid (SkSt q base lo cap ls _ at2 _ (ps ++ ((⟨8, ⟨#[]⟩, ⟨#[]⟩, [], ⟨#[]⟩, (ps.length : Int) + 1, (n5 : Int) + 1⟩ : Stp), Value.slice none 0 0) :: (rs ++ [((⟨9, ⟨#[]⟩, ⟨#[]⟩, [], ⟨#[]⟩, 0, 0⟩ : Stp), Value.slice none 0 0)]))) := h7
 have HK7 : Hid (Wk q v.ownBlock w _ ∧ RowTo w v (.slice (some ⟨g6, 0, none⟩) (n5 + 1) vc6)) := ⟨HK6.out.1.trans hk7 HK6.out.2.or, HK6.out.2⟩
 have d2 := h6.c2
 have hq6 := h6.lt
 have hj1 : (ps.length : Int) < (n5 : Int) + 1 := by omega
 clear h7 hk7 h6 hk6 hr6 e6 HS5 HK5
 go_wp2_with fail
 have hn7 : (ps ++ ((⟨8, ⟨#[]⟩, ⟨#[]⟩, [], ⟨#[]⟩, (ps.length : Int) + 1, (n5 : Int) + 1⟩ : Stp), Value.slice none 0 0) :: (rs ++ [((⟨9, ⟨#[]⟩, ⟨#[]⟩, [], ⟨#[]⟩, 0, 0⟩ : Stp), Value.slice none 0 0)])).length = n5 + 1 := by have := HN5.out; simp; omega
 refine (HH2.out _ _ _ HS7.out (by rw [hn7]; have := HN5.out; omega)).mono ?_
 rintro e W8 ⟨rfl, v8, rs2, hrs2, h8, hk8, hr8⟩
 rw [hn7] at hrs2
 have HRS2 : Hid (rs2.map (·.1) = f2 (n5 + 1)) := hrs2
 have hrl2b : rs2.length = (f2 (n5 + 1)).length := by rw [← hrs2]; simp
 have HRL2 : Hid (rs2.length = (f2 (n5 + 1)).length) := hrl2b
 have hrl3 : rs2.length ≤ 1000 := by rw [hrl2b]; exact HFL2.out _
 obtain ⟨n8, hn8⟩ : ∃ n8, n8 = n5 + 1 + rs2.length := ⟨_, rfl⟩
 have HN8 : Hid (n8 = n5 + 1 + rs2.length) := hn8
 have HK8 : Hid (Wk q v.ownBlock w W8 ∧ RowTo w v v8) := ⟨HK7.out.1.trans hk8 HK7.out.2.or, HK7.out.2.trans hr8 HK7.out.1.size⟩
 have HS8 : Hid (SkSt q base lo cap ls W8 at3 v8 ((ps ++ ((⟨8, ⟨#[]⟩, ⟨#[]⟩, [], ⟨#[]⟩, (ps.length : Int) + 1, (n5 : Int) + 1⟩ : Stp), Value.slice none 0 0) :: (rs ++ [((⟨9, ⟨#[]⟩, ⟨#[]⟩, [], ⟨#[]⟩, 0, 0⟩ : Stp), Value.slice none 0 0)])) ++ rs2)) := h8
 have HNL8 : Hid (((ps ++ ((⟨8, ⟨#[]⟩, ⟨#[]⟩, [], ⟨#[]⟩, (ps.length : Int) + 1, (n5 : Int) + 1⟩ : Stp), Value.slice none 0 0) :: (rs ++ [((⟨9, ⟨#[]⟩, ⟨#[]⟩, [], ⟨#[]⟩, 0, 0⟩ : Stp), Value.slice none 0 0)])) ++ rs2).length = n8) := by show _ = _; have := HN8.out; have := HN5.out; simp; omega
 have hn8b : n8 ≤ 5000 := by omega
 have hq8 := h8.lt
 have hj8 : (n5 : Int) < (n8 : Int) + 1 := by omega
 have hj7 : (n8 : Int) < (n8 : Int) + 1 := by omega
 have hj9 : (0 : Int) ≤ n5 := by omega
 have hj10 : (0 : Int) ≤ n8 := by omega
 clear h8 hk8 hr8 hrs2 hrl2b hn8 hn7 hu6 hf6 d2 hq6 HS7 HK7 HK6
 go_wp2_with fail
 refine (z_cP q base lo cap ls at3 v8 _ ⟨9, ⟨#[]⟩, ⟨#[]⟩, [], ⟨#[]⟩, 0, 0⟩ none 0 _ HS8.out (by rw [HNL8.out]; omega) (World.ownsRow_nil _ _ _ _) (fun x hx k hk => by simp [Value.ownBlock])).mono ?_
 rintro e W9 ⟨rfl, g9, vc9, h9, hk9, hr9⟩
 rw [HNL8.out] at h9 hr9 ⊢
 have e9 : ((ps ++ ((⟨8, ⟨#[]⟩, ⟨#[]⟩, [], ⟨#[]⟩, (ps.length : Int) + 1, (n5 : Int) + 1⟩ : Stp), Value.slice none 0 0) :: (rs ++ [((⟨9, ⟨#[]⟩, ⟨#[]⟩, [], ⟨#[]⟩, 0, 0⟩ : Stp), Value.slice none 0 0)])) ++ rs2) ++ [((⟨9, ⟨#[]⟩, ⟨#[]⟩, [], ⟨#[]⟩, 0, 0⟩ : Stp), Value.slice none 0 0)] = (ps ++ ((⟨8, ⟨#[]⟩, ⟨#[]⟩, [], ⟨#[]⟩, (ps.length : Int) + 1, (n5 : Int) + 1⟩ : Stp), Value.slice none 0 0) :: rs) ++ ((⟨9, ⟨#[]⟩, ⟨#[]⟩, [], ⟨#[]⟩, 0, 0⟩ : Stp), Value.slice none 0 0) :: (rs2 ++ [((⟨9, ⟨#[]⟩, ⟨#[]⟩, [], ⟨#[]⟩, 0, 0⟩ : Stp), Value.slice none 0 0)]) := by simp
 replace h9 : SkSt q base lo cap ls W9 at3 (.slice (some ⟨g9, 0, none⟩) (n8 + 1) vc9) (((ps ++ ((⟨8, ⟨#[]⟩, ⟨#[]⟩, [], ⟨#[]⟩, (ps.length : Int) + 1, (n5 : Int) + 1⟩ : Stp), Value.slice none 0 0) :: (rs ++ [((⟨9, ⟨#[]⟩, ⟨#[]⟩, [], ⟨#[]⟩, 0, 0⟩ : Stp), Value.slice none 0 0)])) ++ rs2) ++ [((⟨9, ⟨#[]⟩, ⟨#[]⟩, [], ⟨#[]⟩, 0, 0⟩ : Stp), Value.slice none 0 0)]) := h9
 rw [e9] at h9
 have hnl : (ps ++ ((⟨8, ⟨#[]⟩, ⟨#[]⟩, [], ⟨#[]⟩, (ps.length : Int) + 1, (n5 : Int) + 1⟩ : Stp), Value.slice none 0 0) :: rs).length = n5 := by have := HN5.out; simp; omega
 have HK9 : Hid (Wk q v.ownBlock w W9 ∧ RowTo w v (.slice (some ⟨g9, 0, none⟩) (n8 + 1) vc9)) := ⟨HK8.out.1.trans hk9 HK8.out.2.or, HK8.out.2.trans hr9 HK8.out.1.size⟩
 obtain ⟨_, _, ee, hle9, hlt9, hqg9, ⟨u9, hu9⟩, hf9⟩ := z_eO h9 (n8 + 1) (by have := HN8.out; have := HN5.out; simp; omega) 5 (by decide)
 cases ee
 obtain ⟨h10, hk10⟩ := z_ff h9 5 (by decide) (.int .i64 ((n8 : Int) + 1)) ((⟨9, ⟨#[]⟩, ⟨#[]⟩, [], ⟨#[]⟩, (n8 : Int) + 1, 0⟩ : Stp), Value.slice none 0 0).1 rfl rfl
 rw [hnl] at hu9 hf9 h10 hk10
 have e10 : (ps ++ ((⟨8, ⟨#[]⟩, ⟨#[]⟩, [], ⟨#[]⟩, (ps.length : Int) + 1, (n5 : Int) + 1⟩ : Stp), Value.slice none 0 0) :: rs) ++ ((⟨9, ⟨#[]⟩, ⟨#[]⟩, [], ⟨#[]⟩, (n8 : Int) + 1, 0⟩ : Stp), Value.slice none 0 0) :: (rs2 ++ [((⟨9, ⟨#[]⟩, ⟨#[]⟩, [], ⟨#[]⟩, 0, 0⟩ : Stp), Value.slice none 0 0)]) = (ps ++ ((⟨8, ⟨#[]⟩, ⟨#[]⟩, [], ⟨#[]⟩, (ps.length : Int) + 1, (n5 : Int) + 1⟩ : Stp), Value.slice none 0 0) :: (rs ++ ((⟨9, ⟨#[]⟩, ⟨#[]⟩, [], ⟨#[]⟩, (n8 : Int) + 1, 0⟩ : Stp), Value.slice none 0 0) :: rs2)) ++ [((⟨9, ⟨#[]⟩, ⟨#[]⟩, [], ⟨#[]⟩, 0, 0⟩ : Stp), Value.slice none 0 0)] := by simp
 replace h10 : SkSt q base lo cap ls _ at3 _ ((ps ++ ((⟨8, ⟨#[]⟩, ⟨#[]⟩, [], ⟨#[]⟩, (ps.length : Int) + 1, (n5 : Int) + 1⟩ : Stp), Value.slice none 0 0) :: rs) ++ ((⟨9, ⟨#[]⟩, ⟨#[]⟩, [], ⟨#[]⟩, (n8 : Int) + 1, 0⟩ : Stp), Value.slice none 0 0) :: (rs2 ++ [((⟨9, ⟨#[]⟩, ⟨#[]⟩, [], ⟨#[]⟩, 0, 0⟩ : Stp), Value.slice none 0 0)])) := h10
 rw [e10] at h10
 have hnl2 : (ps ++ ((⟨8, ⟨#[]⟩, ⟨#[]⟩, [], ⟨#[]⟩, (ps.length : Int) + 1, (n5 : Int) + 1⟩ : Stp), Value.slice none 0 0) :: (rs ++ ((⟨9, ⟨#[]⟩, ⟨#[]⟩, [], ⟨#[]⟩, (n8 : Int) + 1, 0⟩ : Stp), Value.slice none 0 0) :: rs2)).length = n8 := by have := HN8.out; have := HN5.out; simp; omega
 obtain ⟨_, _, ee, hle11, hlt11, hqg11, ⟨u11, hu11⟩, hf11⟩ := z_eO h10 (n8 + 1) (by have := HN8.out; have := HN5.out; simp; omega) 5 (by decide)
 cases ee
 obtain ⟨h12, hk12⟩ := z_ff h10 5 (by decide) (.int .i64 ((n8 : Int) + 1)) ((⟨9, ⟨#[]⟩, ⟨#[]⟩, [], ⟨#[]⟩, (n8 : Int) + 1, 0⟩ : Stp), Value.slice none 0 0).1 rfl rfl
 rw [hnl2] at hu11 hf11 h12 hk12
 have HE : Hid (SkSt q base lo cap ls _ at3 _ ((ps ++ ((⟨8, ⟨#[]⟩, ⟨#[]⟩, [], ⟨#[]⟩, (ps.length : Int) + 1, (n5 : Int) + 1⟩ : Stp), Value.slice none 0 0) :: (rs ++ ((⟨9, ⟨#[]⟩, ⟨#[]⟩, [], ⟨#[]⟩, (n8 : Int) + 1, 0⟩ : Stp), Value.slice none 0 0) :: rs2)) ++ [((⟨9, ⟨#[]⟩, ⟨#[]⟩, [], ⟨#[]⟩, (n8 : Int) + 1, 0⟩ : Stp), Value.slice none 0 0)])) := h12
 have HK12 : Hid (Wk q v.ownBlock w _) := (HK9.out.1.trans hk10 HK9.out.2.or).trans hk12 HK9.out.2.or
 have d9 := h9.c2
 have hq9 := h9.lt
 have d10 := h10.c2
 have hq10 := h10.lt
 clear h9 hk9 hr9 h10 hk10 h12 hk12 e9 e10 hnl hnl2
 go_wp2
 go_end0
 refine ⟨rfl, _, ((⟨8, ⟨#[]⟩, ⟨#[]⟩, [], ⟨#[]⟩, (ps.length : Int) + 1, (n5 : Int) + 1⟩ : Stp), Value.slice none 0 0) :: (rs ++ ((⟨9, ⟨#[]⟩, ⟨#[]⟩, [], ⟨#[]⟩, (n8 : Int) + 1, 0⟩ : Stp), Value.slice none 0 0) :: (rs2 ++ [((⟨9, ⟨#[]⟩, ⟨#[]⟩, [], ⟨#[]⟩, (n8 : Int) + 1, 0⟩ : Stp), Value.slice none 0 0)])), ?_, ?_, HK12.out, HK9.out.2⟩
 ·have e1 : n5 + 1 = ps.length + 2 + (f (ps.length + 1)).length := by have := HN5.out; have := HRL.out; omega
  have e2 : n8 + 1 = ps.length + 3 + (f (ps.length + 1)).length + (f2 (ps.length + 2 + (f (ps.length + 1)).length)).length := by have := HN8.out; have := HRL2.out; rw [← e1]; omega
  rw [List.map_cons, List.map_append, HRS.out, List.map_cons, List.map_append, HRS2.out, ← e2, ← e1, ← HST.out]; rfl
 ·have h := HE.out
  simpa using h
end
end Go.Proofs.YtlbjjbolbopfmaaGreatDoor
