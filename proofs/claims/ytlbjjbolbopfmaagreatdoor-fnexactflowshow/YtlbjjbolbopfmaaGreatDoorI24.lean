import Derived.Test.YtlbjjbolbopfmaaGreatDoorI21
import Derived.Test.YtlbjjbolbopfmaaGreatDoorI22
import Derived.Test.YtlbjjbolbopfmaaGreatDoorI23
import Derived.Test.YtlbjjbolbopfmaaGreatDoorI20
namespace Go.Proofs.YtlbjjbolbopfmaaGreatDoor
set_option maxHeartbeats 8000000
set_option maxRecDepth 1000000
set_option linter.unusedVariables false
section
open Go.RowKit
theorem z_fV (k : Nat) (hk : k = 6) (g off c : Nat) (a t b : ByteArray) (w : World) (hc : 3 ≤ c) (hz : ∀ s ∈ [a, t, b], s.size ≤ 4398046511104) (hi : StrsAt 0 w.heap.size w (some ⟨g, off, none⟩) [a, t, b]) (ht : z_cC t = true) (ha : z_an a = true) (hb : z_an b = true) :
  Calls Tryz.prog 171 #[.int .i64 k, .slice (some ⟨g, off, none⟩) 3 c] w (z_bg w k [a, t, b]) := by
 have HN : Hid (z_af (k : Int) [a, t, b] = some ⟨eS, t, [a, b], eS⟩) := by
  have : z_af (k : Int) [a, t, b] = pTest [a, t, b] := by subst hk; rfl
  show _ = _; rw [this, pTest]; exact if_pos ⟨ha, ht, hb⟩
 have hh : hasB z_cz t = true := by rw [z_cX]; exact ht
 have za := hz a (by simp)
 have zb := hz b (by simp)
 obtain ⟨_, _, e0, hB, k0⟩ := hi.at 0 (by simp)
 cases e0
 have c0 : w.cell? ⟨g, off, none⟩ = some (.string a) := k0
 obtain ⟨_, _, e1, _, k1⟩ := hi.at 1 (by simp)
 cases e1
 have c1 : w.cell? ⟨g, off + 1, none⟩ = some (.string t) := k1
 obtain ⟨_, _, e2, _, k2⟩ := hi.at 2 (by simp)
 cases e2
 have c2 : w.cell? ⟨g, off + 2, none⟩ = some (.string b) := k2
 have hb0 : g < w.heap.size := hB.2
 clear hi hz k0 k1 k2
 subst hk
 all_goals
  go_enter Tryz.func171, Tryz.ntmps171
  go_wp2_with fail
  first
   | go_region_with (first | (go_at_call 179; refine (z_ct _).mono ?_; rintro e w1 ⟨rfl, hb1, hs1⟩; obtain ⟨HB1, HS1, ⟨hz1, hz2⟩, ⟨r0, r1, r2, r3, r4⟩, ⟨s0, s1, s2, s3, s4⟩, f0, f1⟩ := z_bz hb1 hs1; have d0 := (HB1.out.cell (p := ⟨g, off, none⟩) hb0).trans c0; have d1 := (HB1.out.cell (p := ⟨g, off + 1, none⟩) hb0).trans c1; have d2 := (HB1.out.cell (p := ⟨g, off + 2, none⟩) hb0).trans c2; clear hb1 hs1) | (go_at_call 141; refine (z_aF _ 4 z_cz t _ _ (by decide) HS1.out).mono ?_; rintro e w2 ⟨rfl, rfl⟩; rw [hh]) | (go_at_call_of 199 a; refine (z_aK a _ (by omega)).mono ?_; rintro e wx ⟨rfl, rfl⟩; rw [ha]) | (go_at_call_of 199 b; refine (z_aK b _ (by omega)).mono ?_; rintro e wx ⟨rfl, rfl⟩; rw [hb]))
   | fail
  all_goals
   go_wp2_with fail
   go_region
   all_goals
    go_wp2_with fail
    obtain ⟨t0, t1, t2, t3, t4⟩ := ret5 (Y := (wx.setCell ⟨w.heap.size + 1, 2, none⟩ (.string t)).setCell ⟨w.heap.size + 1, 3, none⟩ (.slice (some ⟨wx.heap.size, 0, none⟩) 2 2)) (n := w.heap.size) (by simpa [World.setCell] using hz1) (by simp [go_sem, r0]; rfl) (by simp [go_sem, r1]; rfl) (by simp [go_sem, r2]; rfl) (by simp [go_sem, r3]; rfl) (by simp [go_sem, r4]; rfl) (.int .i64 6) (.string ⟨#[]⟩) (.string t) (.slice (some ⟨wx.heap.size, 0, none⟩) 2 2) (.string ⟨#[]⟩) (.cells #[.string a, .string b] 9)
    refine bodyPost_ret (v := .tuple #[.agg #[.int .i64 6, .string ⟨#[]⟩, .string t, .slice (some ⟨wx.heap.size, 0, none⟩) 2 2, .string ⟨#[]⟩], .bool true]) (by simp [results, Tryz.results171, go_sem, t0, t1, t2, t3, t4]) rfl ?_
    have hX : Below w.heap.size w ((wx.setCell ⟨w.heap.size + 1, 2, none⟩ (.string t)).setCell ⟨w.heap.size + 1, 3, none⟩ (.slice (some ⟨wx.heap.size, 0, none⟩) 2 2)) := (HB1.out.setCell (p := ⟨w.heap.size + 1, 2, none⟩) (Nat.le_succ w.heap.size) _).setCell (p := ⟨w.heap.size + 1, 3, none⟩) (Nat.le_succ w.heap.size) _
    obtain ⟨h1, h2⟩ := z_j0 (wx := wx) (by simp [World.setCell]) (z_az hX (.int .i64 6) (.string ⟨#[]⟩) (.string t) (.slice (some ⟨wx.heap.size, 0, none⟩) 2 2) (.string ⟨#[]⟩)) a b
    exact z_bH (args := [a, b]) h1 (by simp) h2 HN.out (by simp)
end
section
open Go.RowKit
theorem z_fQ (k : Nat) (hk : k = 8) (g off c : Nat) (a t b : ByteArray) (w : World) (hc : 3 ≤ c) (hz : ∀ s ∈ [a, t, b], s.size ≤ 4398046511104) (hi : StrsAt 0 w.heap.size w (some ⟨g, off, none⟩) [a, t, b]) (ht : z_cC t = true) (ha : z_an a = true) (hb : z_an b = true) :
  Calls Tryz.prog 171 #[.int .i64 k, .slice (some ⟨g, off, none⟩) 3 c] w (z_bg w k [a, t, b]) := by
 have HN : Hid (z_af (k : Int) [a, t, b] = some ⟨eS, t, [a, b], eS⟩) := by
  have : z_af (k : Int) [a, t, b] = pTest [a, t, b] := by subst hk; rfl
  show _ = _; rw [this, pTest]; exact if_pos ⟨ha, ht, hb⟩
 have hh : hasB z_cz t = true := by rw [z_cX]; exact ht
 have za := hz a (by simp)
 have zb := hz b (by simp)
 obtain ⟨_, _, e0, hB, k0⟩ := hi.at 0 (by simp)
 cases e0
 have c0 : w.cell? ⟨g, off, none⟩ = some (.string a) := k0
 obtain ⟨_, _, e1, _, k1⟩ := hi.at 1 (by simp)
 cases e1
 have c1 : w.cell? ⟨g, off + 1, none⟩ = some (.string t) := k1
 obtain ⟨_, _, e2, _, k2⟩ := hi.at 2 (by simp)
 cases e2
 have c2 : w.cell? ⟨g, off + 2, none⟩ = some (.string b) := k2
 have hb0 : g < w.heap.size := hB.2
 clear hi hz k0 k1 k2
 subst hk
 all_goals
  go_enter Tryz.func171, Tryz.ntmps171
  go_wp2_with fail
  first
   | go_region_with (first | (go_at_call 179; refine (z_ct _).mono ?_; rintro e w1 ⟨rfl, hb1, hs1⟩; obtain ⟨HB1, HS1, ⟨hz1, hz2⟩, ⟨r0, r1, r2, r3, r4⟩, ⟨s0, s1, s2, s3, s4⟩, f0, f1⟩ := z_bz hb1 hs1; have d0 := (HB1.out.cell (p := ⟨g, off, none⟩) hb0).trans c0; have d1 := (HB1.out.cell (p := ⟨g, off + 1, none⟩) hb0).trans c1; have d2 := (HB1.out.cell (p := ⟨g, off + 2, none⟩) hb0).trans c2; clear hb1 hs1) | (go_at_call 141; refine (z_aF _ 4 z_cz t _ _ (by decide) HS1.out).mono ?_; rintro e w2 ⟨rfl, rfl⟩; rw [hh]) | (go_at_call_of 199 a; refine (z_aK a _ (by omega)).mono ?_; rintro e wx ⟨rfl, rfl⟩; rw [ha]) | (go_at_call_of 199 b; refine (z_aK b _ (by omega)).mono ?_; rintro e wx ⟨rfl, rfl⟩; rw [hb]))
   | fail
  all_goals
   go_wp2_with fail
   go_region
   all_goals
    go_wp2_with fail
    obtain ⟨t0, t1, t2, t3, t4⟩ := ret5 (Y := (wx.setCell ⟨w.heap.size + 1, 2, none⟩ (.string t)).setCell ⟨w.heap.size + 1, 3, none⟩ (.slice (some ⟨wx.heap.size, 0, none⟩) 2 2)) (n := w.heap.size) (by simpa [World.setCell] using hz1) (by simp [go_sem, r0]; rfl) (by simp [go_sem, r1]; rfl) (by simp [go_sem, r2]; rfl) (by simp [go_sem, r3]; rfl) (by simp [go_sem, r4]; rfl) (.int .i64 8) (.string ⟨#[]⟩) (.string t) (.slice (some ⟨wx.heap.size, 0, none⟩) 2 2) (.string ⟨#[]⟩) (.cells #[.string a, .string b] 9)
    refine bodyPost_ret (v := .tuple #[.agg #[.int .i64 8, .string ⟨#[]⟩, .string t, .slice (some ⟨wx.heap.size, 0, none⟩) 2 2, .string ⟨#[]⟩], .bool true]) (by simp [results, Tryz.results171, go_sem, t0, t1, t2, t3, t4]) rfl ?_
    have hX : Below w.heap.size w ((wx.setCell ⟨w.heap.size + 1, 2, none⟩ (.string t)).setCell ⟨w.heap.size + 1, 3, none⟩ (.slice (some ⟨wx.heap.size, 0, none⟩) 2 2)) := (HB1.out.setCell (p := ⟨w.heap.size + 1, 2, none⟩) (Nat.le_succ w.heap.size) _).setCell (p := ⟨w.heap.size + 1, 3, none⟩) (Nat.le_succ w.heap.size) _
    obtain ⟨h1, h2⟩ := z_j0 (wx := wx) (by simp [World.setCell]) (z_az hX (.int .i64 8) (.string ⟨#[]⟩) (.string t) (.slice (some ⟨wx.heap.size, 0, none⟩) 2 2) (.string ⟨#[]⟩)) a b
    exact z_bH (args := [a, b]) h1 (by simp) h2 HN.out (by simp)
end
section
open Go.RowKit
theorem z_jo (k : Nat) (hk : k = 6 ∨ k = 8) (ao : Option Addr) (c : Nat) (ws : List ByteArray) (w : World) (hl : ws.length ≤ 4398046511000) (hc : ws.length ≤ c) (hz : ∀ s ∈ ws, s.size ≤ 4398046511104) (hi : StrsAt 0 w.heap.size w ao ws) :
  Calls Tryz.prog 171 #[.int .i64 k, .slice ao ws.length c] w (z_bg w k ws) := by
 by_cases h3 : ws.length = 3
 ·obtain ⟨a, t, b, rfl⟩ := z_jP h3
  obtain ⟨g, off, rfl, _⟩ := hi.at 0 (by simp)
  cases ht : z_cC t with
  | false => exact z_hJ k hk g off c a t b w hc hz hi ht
  | true =>
   cases ha : z_an a with
   | false => exact z_hu k hk g off c a t b w hc hz hi ht ha
   | true =>
    cases hb : z_an b with
    | false => exact z_hg k hk g off c a t b w hc hz hi ht ha hb
    | true =>
     rcases hk with hk | hk
     ·exact z_fV k hk g off c a t b w hc hz hi ht ha hb
     ·exact z_fQ k hk g off c a t b w hc hz hi ht ha hb
 ·exact z_fz k hk ao c ws w hl h3
end
section
open Go.RowKit
theorem z_bv (ao : Option Addr) (cap n : Nat) (ss : List ByteArray) (B : Nat) (w : World) (hn : n = ss.length) (hl : ss.length ≤ 9223372036854775807) (hs : ∀ s ∈ ss, s.size ≤ 9223372036854775807) (hi : StrsAt 0 B w ao ss) :
  Calls Tryz.prog 197 #[.slice ao n cap] w fun e w' => e = .returned (.bool (allB z_an ss)) ∧ w' = w := by
 subst hn; exact z_aU ao cap ss B w hl hs hi
def DoE (B : Nat) (w : World) (ws : List ByteArray) (e : Ending) (w' : World) : Prop :=
 Below w.heap.size w w' ∧ ∃ (tt nm ud : ByteArray) (args : List ByteArray) (ao : Option Addr) (cap : Nat) (ok : Bool), e = .returned (.tuple #[.agg #[.int .i64 (3 : Nat), .string tt, .string nm, .slice ao args.length cap, .string ud], .bool ok]) ∧ args.length ≤ cap ∧ args.length ≤ ws.length ∧ StrsAt 0 B w' ao args ∧ (ok = true → z_af ((3 : Nat) : Int) ws = some ⟨tt, nm, args, ud⟩) ∧ (ok = false → z_af ((3 : Nat) : Int) ws = none)
theorem z_ka {B : Nat} {w w' : World} {ws args : List ByteArray} {tt nm ud : ByteArray} {ao : Option Addr} {cap : Nat} (hb : Below w.heap.size w w') (hc : args.length ≤ cap) (hs : StrsAt 0 B w' ao args) (hr : z_af ((3 : Nat) : Int) ws = some ⟨tt, nm, args, ud⟩) (hle : args.length ≤ ws.length) :
  DoE B w ws (.returned (.tuple #[.agg #[.int .i64 (3 : Nat), .string tt, .string nm, .slice ao args.length cap, .string ud], .bool true])) w' :=
 ⟨hb, tt, nm, ud, args, ao, cap, true, rfl, hc, hle, hs, fun _ => hr, fun h => Bool.noConfusion h⟩
theorem z_d2 {B : Nat} {w w' : World} {ws args : List ByteArray} {tt nm ud : ByteArray} {ao : Option Addr} {cap : Nat} (hb : Below w.heap.size w w') (hc : args.length ≤ cap) (hs : StrsAt 0 B w' ao args) (hr : z_af ((3 : Nat) : Int) ws = none) (hle : args.length ≤ ws.length) :
  DoE B w ws (.returned (.tuple #[.agg #[.int .i64 (3 : Nat), .string tt, .string nm, .slice ao args.length cap, .string ud], .bool false])) w' :=
 ⟨hb, tt, nm, ud, args, ao, cap, false, rfl, hc, hle, hs, fun h => Bool.noConfusion h, fun _ => hr⟩
theorem z_bD {ws : List ByteArray} (h : z_aJ ws = false) : pDo ws = pDo0 ws eS := by rw [pDo, if_neg (by rw [h]; exact Bool.noConfusion)]
theorem z_kq (ao : Option Addr) (c : Nat) (ws : List ByteArray) (B : Nat) (w : World) (h2 : ws.length < 2) :
  Calls Tryz.prog 198 #[.agg #[.int .i64 (3 : Nat), .string ⟨#[]⟩, .string ⟨#[]⟩, .slice none 0 0, .string ⟨#[]⟩], .slice ao (ws.length) c] w (DoE B w ws) := by
 have HN : Hid (z_af ((3 : Nat) : Int) ws = none) := by
  show pDo ws = _
  match ws, h2 with
  | [], _ => rfl
  | [_], _ => rfl
  | _ :: _ :: _, h => simp at h; omega
 have q3 : ¬ (3 : Int) < ws.length := by omega
 have q2 : (ws.length : Int) < 2 := by omega
 clear h2
 go_enter Tryz.func198, Tryz.ntmps198
 go_wp2
 refine bodyPost_ret (v := .tuple #[.agg #[.int .i64 _, .string ⟨#[]⟩, .string ⟨#[]⟩, .slice none 0 0, .string ⟨#[]⟩], .bool false]) (by simp [results, Tryz.results198, go_sem]; rfl) rfl ?_
 exact z_d2 (args := []) (z_ab _ _ _) (Nat.le_refl _) (StrsAt.nil _ _ _ _) HN.out (Nat.zero_le _)
end
section
open Go.RowKit
theorem z_nC (g off c : Nat) (a b u x : ByteArray) (r : List ByteArray) (B : Nat) (w : World) (hBB : B ≤ w.heap.size) (hl : r.length ≤ 4398046511000) (hc : r.length + 4 ≤ c) (hz : ∀ s ∈ a :: b :: (r ++ [u, x]), s.size ≤ 4398046511104) (hi : StrsAt 0 B w (some ⟨g, off, none⟩) (a :: b :: (r ++ [u, x]))) (hu : (u.toList == [117, 110, 100, 111]) = true) (hx : z_ac x = false) :
  Calls Tryz.prog 198 #[.agg #[.int .i64 (3 : Nat), .string ⟨#[]⟩, .string ⟨#[]⟩, .slice none 0 0, .string ⟨#[]⟩], .slice (some ⟨g, off, none⟩) (r.length + 4) c] w (DoE B w (a :: b :: (r ++ [u, x]))) := by
 have HN : Hid (z_af ((3 : Nat) : Int) (a :: b :: (r ++ [u, x])) = none) := by show pDo (a :: b :: (r ++ [u, x])) = _; rw [z_bQ a b u x r hu]; rw [if_neg (by rw [hx]; exact Bool.noConfusion)]
 have q3 : (3 : Int) < r.length + 4 := by omega
 have q2 : ¬ (r.length : Int) + 2 < 2 := by omega
 have za := hz a (by simp)
 have zb := hz b (by simp)
 obtain ⟨_, _, e0, hB, k0⟩ := hi.at 0 (by simp)
 cases e0
 have c0 : w.cell? ⟨g, off, none⟩ = some (.string a) := k0
 obtain ⟨_, _, e1, _, k1⟩ := hi.at 1 (by simp)
 cases e1
 have c1 : w.cell? ⟨g, off + 1, none⟩ = some (.string b) := k1
 have hb0 : g < w.heap.size := Nat.lt_of_lt_of_le hB.2 hBB
 have HZ : Hid (∀ s ∈ r, s.size ≤ 9223372036854775807) := fun s hs => by have := hz s (by simp [hs]); omega
 have zx := hz x (by simp)
 have cu : w.cell? ⟨g, off + (r.length + 2), none⟩ = some (.string u) := by
  obtain ⟨_, _, e1, _, hc1⟩ := hi.at (r.length + 2) (by simp)
  cases e1
  simpa using hc1
 have cx : w.cell? ⟨g, off + (r.length + 3), none⟩ = some (.string x) := by
  obtain ⟨_, _, e1, _, hc1⟩ := hi.at (r.length + 3) (by simp)
  cases e1
  simpa using hc1
 have HD : Hid (StrsAt 0 B w (some ⟨g, off + 2, none⟩) r) := by
  have h1 := (hi.drop 2).take r.length
  rwa [show ((a :: b :: (r ++ [u, x])).drop 2).take r.length = r by simp] at h1
 have hc2 : ¬ c = 2 := by omega
 clear hi hz k0 k1
 go_enter Tryz.func198, Tryz.ntmps198
 go_wp2_with (first | (go_at_call_of 140 x; refine (z_a x _ (by omega)).mono ?_; rintro e wx ⟨rfl, rfl⟩; rw [hx]))
 refine bodyPost_ret (v := .tuple #[.agg #[.int .i64 _, .string ⟨#[]⟩, .string ⟨#[]⟩, .slice none 0 0, .string x], .bool false]) (by simp [results, Tryz.results198, go_sem]; rfl) rfl ?_
 exact z_d2 (args := []) (z_ab _ _ _) (Nat.le_refl _) (StrsAt.nil _ _ _ _) HN.out (Nat.zero_le _)
theorem z_ns (g off c : Nat) (a b u x : ByteArray) (r : List ByteArray) (B : Nat) (w : World) (hBB : B ≤ w.heap.size) (hl : r.length ≤ 4398046511000) (hc : r.length + 4 ≤ c) (hz : ∀ s ∈ a :: b :: (r ++ [u, x]), s.size ≤ 4398046511104) (hi : StrsAt 0 B w (some ⟨g, off, none⟩) (a :: b :: (r ++ [u, x]))) (hu : (u.toList == [117, 110, 100, 111]) = true) (hx : z_ac x = true) (hr : 3 < r.length) :
  Calls Tryz.prog 198 #[.agg #[.int .i64 (3 : Nat), .string ⟨#[]⟩, .string ⟨#[]⟩, .slice none 0 0, .string ⟨#[]⟩], .slice (some ⟨g, off, none⟩) (r.length + 4) c] w (DoE B w (a :: b :: (r ++ [u, x]))) := by
 have HN : Hid (z_af ((3 : Nat) : Int) (a :: b :: (r ++ [u, x])) = none) := by show pDo (a :: b :: (r ++ [u, x])) = _; rw [z_bQ a b u x r hu]; rw [if_pos hx, pDo0]; exact if_neg (fun h => by have := h.2.2.1; omega)
 have q3 : (3 : Int) < r.length + 4 := by omega
 have q2 : ¬ (r.length : Int) + 2 < 2 := by omega
 have q5 : (5 : Int) < r.length + 2 := by omega
 have za := hz a (by simp)
 have zb := hz b (by simp)
 obtain ⟨_, _, e0, hB, k0⟩ := hi.at 0 (by simp)
 cases e0
 have c0 : w.cell? ⟨g, off, none⟩ = some (.string a) := k0
 obtain ⟨_, _, e1, _, k1⟩ := hi.at 1 (by simp)
 cases e1
 have c1 : w.cell? ⟨g, off + 1, none⟩ = some (.string b) := k1
 have hb0 : g < w.heap.size := Nat.lt_of_lt_of_le hB.2 hBB
 have HZ : Hid (∀ s ∈ r, s.size ≤ 9223372036854775807) := fun s hs => by have := hz s (by simp [hs]); omega
 have zx := hz x (by simp)
 have cu : w.cell? ⟨g, off + (r.length + 2), none⟩ = some (.string u) := by
  obtain ⟨_, _, e1, _, hc1⟩ := hi.at (r.length + 2) (by simp)
  cases e1
  simpa using hc1
 have cx : w.cell? ⟨g, off + (r.length + 3), none⟩ = some (.string x) := by
  obtain ⟨_, _, e1, _, hc1⟩ := hi.at (r.length + 3) (by simp)
  cases e1
  simpa using hc1
 have HD : Hid (StrsAt 0 B w (some ⟨g, off + 2, none⟩) r) := by
  have h1 := (hi.drop 2).take r.length
  rwa [show ((a :: b :: (r ++ [u, x])).drop 2).take r.length = r by simp] at h1
 have hc2 : ¬ c = 2 := by omega
 clear hi hz k0 k1
 go_enter Tryz.func198, Tryz.ntmps198
 go_wp2_with (first | (go_at_call_of 140 x; refine (z_a x _ (by omega)).mono ?_; rintro e wx ⟨rfl, rfl⟩; rw [hx]))
 refine bodyPost_ret (v := .tuple #[.agg #[.int .i64 _, .string ⟨#[]⟩, .string ⟨#[]⟩, .slice none 0 0, .string x], .bool false]) (by simp [results, Tryz.results198, go_sem]; rfl) rfl ?_
 exact z_d2 (args := []) (z_ab _ _ _) (Nat.le_refl _) (StrsAt.nil _ _ _ _) HN.out (Nat.zero_le _)
theorem z_nn (g off c : Nat) (a b u x : ByteArray) (r : List ByteArray) (B : Nat) (w : World) (hBB : B ≤ w.heap.size) (hl : r.length ≤ 4398046511000) (hc : r.length + 4 ≤ c) (hz : ∀ s ∈ a :: b :: (r ++ [u, x]), s.size ≤ 4398046511104) (hi : StrsAt 0 B w (some ⟨g, off, none⟩) (a :: b :: (r ++ [u, x]))) (hu : (u.toList == [117, 110, 100, 111]) = true) (hx : z_ac x = true) (hr : r.length ≤ 3) (ha : z_ac a = false) :
  Calls Tryz.prog 198 #[.agg #[.int .i64 (3 : Nat), .string ⟨#[]⟩, .string ⟨#[]⟩, .slice none 0 0, .string ⟨#[]⟩], .slice (some ⟨g, off, none⟩) (r.length + 4) c] w (DoE B w (a :: b :: (r ++ [u, x]))) := by
 have HN : Hid (z_af ((3 : Nat) : Int) (a :: b :: (r ++ [u, x])) = none) := by show pDo (a :: b :: (r ++ [u, x])) = _; rw [z_bQ a b u x r hu]; rw [if_pos hx, pDo0]; exact if_neg (by rw [ha]; exact fun h => Bool.noConfusion h.1)
 have q3 : (3 : Int) < r.length + 4 := by omega
 have q2 : ¬ (r.length : Int) + 2 < 2 := by omega
 have q5 : ¬ (5 : Int) < r.length + 2 := by omega
 have za := hz a (by simp)
 have zb := hz b (by simp)
 obtain ⟨_, _, e0, hB, k0⟩ := hi.at 0 (by simp)
 cases e0
 have c0 : w.cell? ⟨g, off, none⟩ = some (.string a) := k0
 obtain ⟨_, _, e1, _, k1⟩ := hi.at 1 (by simp)
 cases e1
 have c1 : w.cell? ⟨g, off + 1, none⟩ = some (.string b) := k1
 have hb0 : g < w.heap.size := Nat.lt_of_lt_of_le hB.2 hBB
 have HZ : Hid (∀ s ∈ r, s.size ≤ 9223372036854775807) := fun s hs => by have := hz s (by simp [hs]); omega
 have zx := hz x (by simp)
 have cu : w.cell? ⟨g, off + (r.length + 2), none⟩ = some (.string u) := by
  obtain ⟨_, _, e1, _, hc1⟩ := hi.at (r.length + 2) (by simp)
  cases e1
  simpa using hc1
 have cx : w.cell? ⟨g, off + (r.length + 3), none⟩ = some (.string x) := by
  obtain ⟨_, _, e1, _, hc1⟩ := hi.at (r.length + 3) (by simp)
  cases e1
  simpa using hc1
 have HD : Hid (StrsAt 0 B w (some ⟨g, off + 2, none⟩) r) := by
  have h1 := (hi.drop 2).take r.length
  rwa [show ((a :: b :: (r ++ [u, x])).drop 2).take r.length = r by simp] at h1
 have hc2 : ¬ c = 2 := by omega
 clear hi hz k0 k1
 go_enter Tryz.func198, Tryz.ntmps198
 go_wp2_with (first | (go_at_call_of 140 x; refine (z_a x _ (by omega)).mono ?_; rintro e wx ⟨rfl, rfl⟩; rw [hx]) | (go_at_call_of 140 a; refine (z_a a _ (by omega)).mono ?_; rintro e wx ⟨rfl, rfl⟩; rw [ha]))
 refine bodyPost_ret (v := .tuple #[.agg #[.int .i64 _, .string ⟨#[]⟩, .string ⟨#[]⟩, .slice none 0 0, .string x], .bool false]) (by simp [results, Tryz.results198, go_sem]; rfl) rfl ?_
 exact z_d2 (args := []) (z_ab _ _ _) (Nat.le_refl _) (StrsAt.nil _ _ _ _) HN.out (Nat.zero_le _)
theorem z_nm (g off c : Nat) (a b u x : ByteArray) (r : List ByteArray) (B : Nat) (w : World) (hBB : B ≤ w.heap.size) (hl : r.length ≤ 4398046511000) (hc : r.length + 4 ≤ c) (hz : ∀ s ∈ a :: b :: (r ++ [u, x]), s.size ≤ 4398046511104) (hi : StrsAt 0 B w (some ⟨g, off, none⟩) (a :: b :: (r ++ [u, x]))) (hu : (u.toList == [117, 110, 100, 111]) = true) (hx : z_ac x = true) (hr : r.length ≤ 3) (ha : z_ac a = true) (hb : z_ac b = false) :
  Calls Tryz.prog 198 #[.agg #[.int .i64 (3 : Nat), .string ⟨#[]⟩, .string ⟨#[]⟩, .slice none 0 0, .string ⟨#[]⟩], .slice (some ⟨g, off, none⟩) (r.length + 4) c] w (DoE B w (a :: b :: (r ++ [u, x]))) := by
 have HN : Hid (z_af ((3 : Nat) : Int) (a :: b :: (r ++ [u, x])) = none) := by show pDo (a :: b :: (r ++ [u, x])) = _; rw [z_bQ a b u x r hu]; rw [if_pos hx, pDo0]; exact if_neg (by rw [hb]; exact fun h => Bool.noConfusion h.2.1)
 have q3 : (3 : Int) < r.length + 4 := by omega
 have q2 : ¬ (r.length : Int) + 2 < 2 := by omega
 have q5 : ¬ (5 : Int) < r.length + 2 := by omega
 have za := hz a (by simp)
 have zb := hz b (by simp)
 obtain ⟨_, _, e0, hB, k0⟩ := hi.at 0 (by simp)
 cases e0
 have c0 : w.cell? ⟨g, off, none⟩ = some (.string a) := k0
 obtain ⟨_, _, e1, _, k1⟩ := hi.at 1 (by simp)
 cases e1
 have c1 : w.cell? ⟨g, off + 1, none⟩ = some (.string b) := k1
 have hb0 : g < w.heap.size := Nat.lt_of_lt_of_le hB.2 hBB
 have HZ : Hid (∀ s ∈ r, s.size ≤ 9223372036854775807) := fun s hs => by have := hz s (by simp [hs]); omega
 have zx := hz x (by simp)
 have cu : w.cell? ⟨g, off + (r.length + 2), none⟩ = some (.string u) := by
  obtain ⟨_, _, e1, _, hc1⟩ := hi.at (r.length + 2) (by simp)
  cases e1
  simpa using hc1
 have cx : w.cell? ⟨g, off + (r.length + 3), none⟩ = some (.string x) := by
  obtain ⟨_, _, e1, _, hc1⟩ := hi.at (r.length + 3) (by simp)
  cases e1
  simpa using hc1
 have HD : Hid (StrsAt 0 B w (some ⟨g, off + 2, none⟩) r) := by
  have h1 := (hi.drop 2).take r.length
  rwa [show ((a :: b :: (r ++ [u, x])).drop 2).take r.length = r by simp] at h1
 have hc2 : ¬ c = 2 := by omega
 clear hi hz k0 k1
 go_enter Tryz.func198, Tryz.ntmps198
 go_wp2_with (first | (go_at_call_of 140 x; refine (z_a x _ (by omega)).mono ?_; rintro e wx ⟨rfl, rfl⟩; rw [hx]) | (go_at_call_of 140 a; refine (z_a a _ (by omega)).mono ?_; rintro e wx ⟨rfl, rfl⟩; rw [ha]) | (go_at_call_of 140 b; refine (z_a b _ (by omega)).mono ?_; rintro e wx ⟨rfl, rfl⟩; rw [hb]))
 refine bodyPost_ret (v := .tuple #[.agg #[.int .i64 _, .string ⟨#[]⟩, .string ⟨#[]⟩, .slice none 0 0, .string x], .bool false]) (by simp [results, Tryz.results198, go_sem]; rfl) rfl ?_
 exact z_d2 (args := []) (z_ab _ _ _) (Nat.le_refl _) (StrsAt.nil _ _ _ _) HN.out (Nat.zero_le _)
theorem z_nl (g off c : Nat) (a b u x : ByteArray) (r : List ByteArray) (B : Nat) (w : World) (hBB : B ≤ w.heap.size) (hl : r.length ≤ 4398046511000) (hc : r.length + 4 ≤ c) (hz : ∀ s ∈ a :: b :: (r ++ [u, x]), s.size ≤ 4398046511104) (hi : StrsAt 0 B w (some ⟨g, off, none⟩) (a :: b :: (r ++ [u, x]))) (hu : (u.toList == [117, 110, 100, 111]) = true) (hx : z_ac x = true) (hr : r.length ≤ 3) (ha : z_ac a = true) (hb : z_ac b = true) (ho : allB z_an r = false) :
  Calls Tryz.prog 198 #[.agg #[.int .i64 (3 : Nat), .string ⟨#[]⟩, .string ⟨#[]⟩, .slice none 0 0, .string ⟨#[]⟩], .slice (some ⟨g, off, none⟩) (r.length + 4) c] w (DoE B w (a :: b :: (r ++ [u, x]))) := by
 have HN : Hid (z_af ((3 : Nat) : Int) (a :: b :: (r ++ [u, x])) = none) := by show pDo (a :: b :: (r ++ [u, x])) = _; rw [z_bQ a b u x r hu]; rw [if_pos hx, pDo0]; exact if_neg (by rw [ho]; exact fun h => Bool.noConfusion h.2.2.2)
 have q3 : (3 : Int) < r.length + 4 := by omega
 have q2 : ¬ (r.length : Int) + 2 < 2 := by omega
 have q5 : ¬ (5 : Int) < r.length + 2 := by omega
 have za := hz a (by simp)
 have zb := hz b (by simp)
 obtain ⟨_, _, e0, hB, k0⟩ := hi.at 0 (by simp)
 cases e0
 have c0 : w.cell? ⟨g, off, none⟩ = some (.string a) := k0
 obtain ⟨_, _, e1, _, k1⟩ := hi.at 1 (by simp)
 cases e1
 have c1 : w.cell? ⟨g, off + 1, none⟩ = some (.string b) := k1
 have hb0 : g < w.heap.size := Nat.lt_of_lt_of_le hB.2 hBB
 have HZ : Hid (∀ s ∈ r, s.size ≤ 9223372036854775807) := fun s hs => by have := hz s (by simp [hs]); omega
 have zx := hz x (by simp)
 have cu : w.cell? ⟨g, off + (r.length + 2), none⟩ = some (.string u) := by
  obtain ⟨_, _, e1, _, hc1⟩ := hi.at (r.length + 2) (by simp)
  cases e1
  simpa using hc1
 have cx : w.cell? ⟨g, off + (r.length + 3), none⟩ = some (.string x) := by
  obtain ⟨_, _, e1, _, hc1⟩ := hi.at (r.length + 3) (by simp)
  cases e1
  simpa using hc1
 have HD : Hid (StrsAt 0 B w (some ⟨g, off + 2, none⟩) r) := by
  have h1 := (hi.drop 2).take r.length
  rwa [show ((a :: b :: (r ++ [u, x])).drop 2).take r.length = r by simp] at h1
 have hc2 : ¬ c = 2 := by omega
 clear hi hz k0 k1
 go_enter Tryz.func198, Tryz.ntmps198
 go_wp2_with (first | (go_at_call_of 140 x; refine (z_a x _ (by omega)).mono ?_; rintro e wx ⟨rfl, rfl⟩; rw [hx]) | (go_at_call_of 140 a; refine (z_a a _ (by omega)).mono ?_; rintro e wx ⟨rfl, rfl⟩; rw [ha]) | (go_at_call_of 140 b; refine (z_a b _ (by omega)).mono ?_; rintro e wx ⟨rfl, rfl⟩; rw [hb]) | (go_at_call 197; refine (z_bv (some ⟨g, off + 2, none⟩) (c - 2) r.length r B _ rfl (by omega) HZ.out (HD.out.below ((z_ab _ _ _).mono hBB))).mono ?_; rintro e wx ⟨rfl, rfl⟩; rw [ho]))
 refine bodyPost_ret (v := .tuple #[.agg #[.int .i64 _, .string ⟨#[]⟩, .string ⟨#[]⟩, .slice none 0 0, .string x], .bool false]) (by simp [results, Tryz.results198, go_sem]; rfl) rfl ?_
 exact z_d2 (args := []) (z_ab _ _ _) (Nat.le_refl _) (StrsAt.nil _ _ _ _) HN.out (Nat.zero_le _)
theorem z_na (g off c : Nat) (a b u x : ByteArray) (r : List ByteArray) (B : Nat) (w : World) (hBB : B ≤ w.heap.size) (hl : r.length ≤ 4398046511000) (hc : r.length + 4 ≤ c) (hz : ∀ s ∈ a :: b :: (r ++ [u, x]), s.size ≤ 4398046511104) (hi : StrsAt 0 B w (some ⟨g, off, none⟩) (a :: b :: (r ++ [u, x]))) (hu : (u.toList == [117, 110, 100, 111]) = true) (hx : z_ac x = true) (hr : r.length ≤ 3) (ha : z_ac a = true) (hb : z_ac b = true) (ho : allB z_an r = true) :
  Calls Tryz.prog 198 #[.agg #[.int .i64 (3 : Nat), .string ⟨#[]⟩, .string ⟨#[]⟩, .slice none 0 0, .string ⟨#[]⟩], .slice (some ⟨g, off, none⟩) (r.length + 4) c] w (DoE B w (a :: b :: (r ++ [u, x]))) := by
 have HN : Hid (z_af ((3 : Nat) : Int) (a :: b :: (r ++ [u, x])) = some ⟨a, b, r, x⟩) := by show pDo (a :: b :: (r ++ [u, x])) = _; rw [z_bQ a b u x r hu]; rw [if_pos hx, pDo0]; exact if_pos ⟨ha, hb, hr, ho⟩
 have q3 : (3 : Int) < r.length + 4 := by omega
 have q2 : ¬ (r.length : Int) + 2 < 2 := by omega
 have q5 : ¬ (5 : Int) < r.length + 2 := by omega
 have za := hz a (by simp)
 have zb := hz b (by simp)
 obtain ⟨_, _, e0, hB, k0⟩ := hi.at 0 (by simp)
 cases e0
 have c0 : w.cell? ⟨g, off, none⟩ = some (.string a) := k0
 obtain ⟨_, _, e1, _, k1⟩ := hi.at 1 (by simp)
 cases e1
 have c1 : w.cell? ⟨g, off + 1, none⟩ = some (.string b) := k1
 have hb0 : g < w.heap.size := Nat.lt_of_lt_of_le hB.2 hBB
 have HZ : Hid (∀ s ∈ r, s.size ≤ 9223372036854775807) := fun s hs => by have := hz s (by simp [hs]); omega
 have zx := hz x (by simp)
 have cu : w.cell? ⟨g, off + (r.length + 2), none⟩ = some (.string u) := by
  obtain ⟨_, _, e1, _, hc1⟩ := hi.at (r.length + 2) (by simp)
  cases e1
  simpa using hc1
 have cx : w.cell? ⟨g, off + (r.length + 3), none⟩ = some (.string x) := by
  obtain ⟨_, _, e1, _, hc1⟩ := hi.at (r.length + 3) (by simp)
  cases e1
  simpa using hc1
 have HD : Hid (StrsAt 0 B w (some ⟨g, off + 2, none⟩) r) := by
  have h1 := (hi.drop 2).take r.length
  rwa [show ((a :: b :: (r ++ [u, x])).drop 2).take r.length = r by simp] at h1
 have hc2 : ¬ c = 2 := by omega
 clear hi hz k0 k1
 go_enter Tryz.func198, Tryz.ntmps198
 go_wp2_with (first | (go_at_call_of 140 x; refine (z_a x _ (by omega)).mono ?_; rintro e wx ⟨rfl, rfl⟩; rw [hx]) | (go_at_call_of 140 a; refine (z_a a _ (by omega)).mono ?_; rintro e wx ⟨rfl, rfl⟩; rw [ha]) | (go_at_call_of 140 b; refine (z_a b _ (by omega)).mono ?_; rintro e wx ⟨rfl, rfl⟩; rw [hb]) | (go_at_call 197; refine (z_bv (some ⟨g, off + 2, none⟩) (c - 2) r.length r B _ rfl (by omega) HZ.out (HD.out.below ((z_ab _ _ _).mono hBB))).mono ?_; rintro e wx ⟨rfl, rfl⟩; rw [ho]))
 refine bodyPost_ret (v := .tuple #[.agg #[.int .i64 _, .string a, .string b, .slice (some ⟨g, off + 2, none⟩) r.length (c - 2), .string x], .bool true]) (by simp [results, Tryz.results198, go_sem]; rfl) rfl ?_
 exact z_ka (args := r) (z_ab _ _ _) (by omega) (HD.out.below ((z_ab _ _ _).mono hBB)) HN.out (by simp only [List.length_cons, List.length_append]; omega)
end
end Go.Proofs.YtlbjjbolbopfmaaGreatDoor
