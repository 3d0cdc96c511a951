import Derived.Test.YtlbjjbolbopfmaaGreatDoorJ05
import Derived.Test.YtlbjjbolbopfmaaGreatDoorJ08
import Derived.Test.YtlbjjbolbopfmaaGreatDoorJ11
import Derived.Test.YtlbjjbolbopfmaaGreatDoorJ13
namespace Go.Proofs.YtlbjjbolbopfmaaGreatDoor
set_option maxHeartbeats 2000000
set_option maxRecDepth 1000000
set_option linter.unusedVariables false
section
open Go.RowKit
def z_a3 (k : Int) : ByteArray :=
 if (k == 1) = true then ⟨#[119, 111, 114, 107, 102, 108, 111, 119]⟩ else
 if (k == 2) = true then ⟨#[108, 101, 116]⟩ else
 if (k == 3) = true then ⟨#[100, 111]⟩ else
 if (k == 4) = true then ⟨#[115, 108, 101, 101, 112]⟩ else
 if (k == 5) = true then ⟨#[103, 101, 116]⟩ else
 if (k == 6) = true then ⟨#[105, 102]⟩ else
 if (k == 7) = true then ⟨#[101, 108, 115, 101]⟩ else
 if (k == 8) = true then ⟨#[119, 104, 105, 108, 101]⟩ else
 if (k == 9) = true then ⟨#[98, 111, 116, 104]⟩ else
 if (k == 10) = true then ⟨#[97, 110, 100]⟩ else
 if (k == 11) = true then ⟨#[101, 110, 100]⟩ else
 if (k == 12) = true then ⟨#[114, 101, 116, 117, 114, 110]⟩ else
 if (k == 13) = true then ⟨#[102, 97, 105, 108]⟩ else
 if (k == 14) = true then ⟨#[112, 97, 116, 99, 104]⟩ else
 if (k == 15) = true then ⟨#[110, 101, 120, 116]⟩ else
 ⟨#[]⟩
def z_aN (s : ByteArray) : Int := match (List.range 15).find? (fun i : Nat => decide (z_a3 ((i : Int) + 1) = s)) with
 | some i => (i : Int) + 1
 | none => 0
theorem z_iZ {s : ByteArray} {k : Nat} (h1 : 1 ≤ k) (h2 : k ≤ 15) (hk : z_a3 k = s) (hb : ∀ j : Nat, 1 ≤ j → j < k → z_a3 j ≠ s) : z_aN s = k := by
 have e : (List.range 15).find? (fun i : Nat => decide (z_a3 ((i : Int) + 1) = s)) = some (k - 1) := by
  rw [List.find?_range_eq_some]
  refine ⟨?_, by simp; omega, ?_⟩
  ·rw [show (((k - 1 : Nat) : Int) + 1) = k by omega]
   simpa using hk
  ·intro j hj
   have := hb (j + 1) (by omega) (by omega)
   simpa using this
 rw [z_aN, e]
 show (((k - 1 : Nat) : Int) + 1) = k
 omega
theorem z_gn {s : ByteArray} (hb : ∀ j : Nat, 1 ≤ j → j < 16 → z_a3 j ≠ s) : z_aN s = 0 := by
 have e : (List.range 15).find? (fun i : Nat => decide (z_a3 ((i : Int) + 1) = s)) = none := by
  rw [List.find?_eq_none]
  intro j hj
  have := hb (j + 1) (by omega) (by simp at hj; omega)
  simpa using this
 rw [z_aN, e]
theorem z_df (k : Int) (w : World) : Calls Tryz.prog 159 #[.int .i64 k] w fun e w' => e = .returned (.string (z_a3 k)) ∧ w' = w := by
 go_enter Tryz.func159, Tryz.ntmps159
 go_wp2
 all_goals
  go_ret
  exact ⟨by simp only [z_a3, *] <;> rfl, rfl⟩
theorem z_dp (s : ByteArray) (w : World) : Calls Tryz.prog 158 #[.string s, .int .i64 15, .func (.func 159) #[] #[]] w fun e w' => e = .returned (.int .i64 (z_aN s)) ∧ w' = w := by
 go_enter Tryz.func158, Tryz.ntmps158
 go_wp2
 go_loop [7] (fun i => ∃ k : Nat, 1 ≤ k ∧ k ≤ 16 ∧ i = .int .i64 k ∧ Hid (∀ j : Nat, 1 ≤ j → j < k → z_a3 j ≠ s)) (fun i => 16 - (intOf i).toNat)
 case atStart => exact ⟨1, by omega, by omega, rfl, fun j h1 h2 => by omega⟩
 case round =>
  obtain ⟨k, hk1, hk, rfl, HO⟩ := hrel
  by_cases hlt : k ≤ 15
  ·cases he : ((z_a3 k).toList == s.toList) with
   | true =>
    have HN : Hid (z_aN s = k) := z_iZ hk1 hlt (by rw [z_aI] at he; simpa using he) HO.out
    go_wp2_with (go_at_call 159; refine (z_df _ _).mono ?_; rintro e w' ⟨rfl, rfl⟩)
    go_ret
    exact ⟨by rw [HN.out]; rfl, rfl⟩
   | false =>
    have HN : Hid (∀ j : Nat, 1 ≤ j → j < k + 1 → z_a3 j ≠ s) := by
     intro j h1 h2
     by_cases e : j = k
     ·subst e; rw [z_aI] at he; simpa using he
     ·exact HO.out j h1 (by omega)
    go_wp2_with (go_at_call 159; refine (z_df _ _).mono ?_; rintro e w' ⟨rfl, rfl⟩)
    go_round
    case rel => exact ⟨k + 1, by omega, by omega, by go_num, HN⟩
    case measure => simp [intOf]; omega
  ·have HN : Hid (z_aN s = 0) := z_gn (fun j h1 h2 => HO.out j h1 (by omega))
   go_wp2
   go_ret
   exact ⟨by rw [HN.out]; rfl, rfl⟩
theorem z_hN (ao : Option Addr) (cap : Nat) (ws : List ByteArray) (w : World) (hcap : ws.length ≤ cap) (hl : ws.length ≤ 4398046511000) (hs : ∀ s ∈ ws, s.size ≤ 2199023255552) (hi : StrsAt 0 w.heap.size w ao ws) (he : Env w) :
  Calls Tryz.prog 160 #[.int .i64 1, .slice ao ws.length cap] w fun e w' => ReadEnd (pHead ws) 0 w e w' := by
 have HI : Hid (StrsAt 0 w.heap.size w ao ws) := hi
 have HS : Hid (∀ s ∈ ws, s.size ≤ 2199023255552) := hs
 have HE : Hid (Env w) := he
 clear hi hs he
 go_enter Tryz.func160, Tryz.ntmps160
 go_wp2_with fail
 refine (z_hQ _ _ _ _ hcap (by omega) HS.out (HI.out.later ((Below.refl _ _).alloc (Nat.le_refl _) _))).mono ?_
 rintro e w1 ⟨v, rfl, hb1, k', d', hv, hd⟩
 obtain ⟨⟨x0, x1, x2, x3, x4⟩, hf, hlt⟩ := box5 hb1
 have HB : Hid (Below w.heap.size w w1) := ((Below.refl _ _).alloc (Nat.le_refl _) _).trans (hb1.mono (by simp))
 obtain ⟨bo, cap', rfl, hcp, hv⟩ := hv
 simp at hv
 have HV : Hid (StrsAt (w.heap.size + 1) w1.heap.size w1 bo d'.args) := hv
 have HD : Hid (∀ d, pHead ws = some d → d' = d ∧ k' = 0) := hd
 clear hb1 hv hd
 go_wp2
 refine bodyPost_ret (v := .tuple #[.agg #[.int .i64 k', .string d'.to, .string d'.name, .slice bo d'.args.length cap', .string d'.undo], .bool (pHead ws).isSome]) (by simp [results, Tryz.results160, go_sem, x0, x1, x2, x3, x4]) rfl ?_
 exact ⟨_, rfl, z_aw _ (Nat.le_refl _) HB.out, k', d', ⟨bo, cap', rfl, hcp, by rw [z_bu]; exact (HV.out.set5 _ (.inl (by omega))).mono (by omega) (Nat.le_refl _)⟩, HD.out⟩
theorem z_iz (ao : Option Addr) (cap : Nat) (ws : List ByteArray) (w : World) (hcap : ws.length ≤ cap) (hl : ws.length ≤ 4398046511000) (hs : ∀ s ∈ ws, s.size ≤ 2199023255552) (hi : StrsAt 0 w.heap.size w ao ws) (he : Env w) :
  Calls Tryz.prog 160 #[.int .i64 2, .slice ao ws.length cap] w fun e w' => ReadEnd (pLet ws) 0 w e w' := by
 have HI : Hid (StrsAt 0 w.heap.size w ao ws) := hi
 have HS : Hid (∀ s ∈ ws, s.size ≤ 2199023255552) := hs
 have HE : Hid (Env w) := he
 clear hi hs he
 go_enter Tryz.func160, Tryz.ntmps160
 go_wp2_with fail
 refine (z_jN _ _ _ _ hcap hl HS.out (HI.out.later ((Below.refl _ _).alloc (Nat.le_refl _) _)) (HE.out.later ((Below.refl _ _).alloc (Nat.le_refl _) _))).mono ?_
 rintro e w1 ⟨v, rfl, hb1, k', d', hv, hd⟩
 obtain ⟨⟨x0, x1, x2, x3, x4⟩, hf, hlt⟩ := box5 hb1
 have HB : Hid (Below w.heap.size w w1) := ((Below.refl _ _).alloc (Nat.le_refl _) _).trans (hb1.mono (by simp))
 obtain ⟨bo, cap', rfl, hcp, hv⟩ := hv
 simp at hv
 have HV : Hid (StrsAt (w.heap.size + 1) w1.heap.size w1 bo d'.args) := hv
 have HD : Hid (∀ d, pLet ws = some d → d' = d ∧ k' = 0) := hd
 clear hb1 hv hd
 go_wp2
 refine bodyPost_ret (v := .tuple #[.agg #[.int .i64 k', .string d'.to, .string d'.name, .slice bo d'.args.length cap', .string d'.undo], .bool (pLet ws).isSome]) (by simp [results, Tryz.results160, go_sem, x0, x1, x2, x3, x4]) rfl ?_
 exact ⟨_, rfl, z_aw _ (Nat.le_refl _) HB.out, k', d', ⟨bo, cap', rfl, hcp, by rw [z_bu]; exact (HV.out.set5 _ (.inl (by omega))).mono (by omega) (Nat.le_refl _)⟩, HD.out⟩
theorem z_i4 (ao : Option Addr) (cap : Nat) (ws : List ByteArray) (w : World) (hcap : ws.length ≤ cap) (hl : ws.length ≤ 4398046511000) (hs : ∀ s ∈ ws, s.size ≤ 2199023255552) (hi : StrsAt 0 w.heap.size w ao ws) (he : Env w) :
  Calls Tryz.prog 160 #[.int .i64 3, .slice ao ws.length cap] w fun e w' => ReadEnd (pDo ws) 0 w e w' := by
 have HI : Hid (StrsAt 0 w.heap.size w ao ws) := hi
 have HS : Hid (∀ s ∈ ws, s.size ≤ 2199023255552) := hs
 have HE : Hid (Env w) := he
 clear hi hs he
 go_enter Tryz.func160, Tryz.ntmps160
 go_wp2_with fail
 refine (z_kU _ _ _ _ hcap hl HS.out (HI.out.later ((Below.refl _ _).alloc (Nat.le_refl _) _)) (HE.out.later ((Below.refl _ _).alloc (Nat.le_refl _) _))).mono ?_
 rintro e w1 ⟨v, rfl, hb1, k', d', hv, hd⟩
 obtain ⟨⟨x0, x1, x2, x3, x4⟩, hf, hlt⟩ := box5 hb1
 have HB : Hid (Below w.heap.size w w1) := ((Below.refl _ _).alloc (Nat.le_refl _) _).trans (hb1.mono (by simp))
 obtain ⟨bo, cap', rfl, hcp, hv⟩ := hv
 simp at hv
 have HV : Hid (StrsAt (w.heap.size + 1) w1.heap.size w1 bo d'.args) := hv
 have HD : Hid (∀ d, pDo ws = some d → d' = d ∧ k' = 0) := hd
 clear hb1 hv hd
 go_wp2
 refine bodyPost_ret (v := .tuple #[.agg #[.int .i64 k', .string d'.to, .string d'.name, .slice bo d'.args.length cap', .string d'.undo], .bool (pDo ws).isSome]) (by simp [results, Tryz.results160, go_sem, x0, x1, x2, x3, x4]) rfl ?_
 exact ⟨_, rfl, z_aw _ (Nat.le_refl _) HB.out, k', d', ⟨bo, cap', rfl, hcp, by rw [z_bu]; exact (HV.out.set5 _ (.inl (by omega))).mono (by omega) (Nat.le_refl _)⟩, HD.out⟩
theorem z_iO (ao : Option Addr) (cap : Nat) (ws : List ByteArray) (w : World) (hcap : ws.length ≤ cap) (hl : ws.length ≤ 4398046511000) (hs : ∀ s ∈ ws, s.size ≤ 2199023255552) (hi : StrsAt 0 w.heap.size w ao ws) (he : Env w) :
  Calls Tryz.prog 160 #[.int .i64 4, .slice ao ws.length cap] w fun e w' => ReadEnd (pOperand ws) 0 w e w' := by
 have HI : Hid (StrsAt 0 w.heap.size w ao ws) := hi
 have HS : Hid (∀ s ∈ ws, s.size ≤ 2199023255552) := hs
 have HE : Hid (Env w) := he
 clear hi hs he
 go_enter Tryz.func160, Tryz.ntmps160
 go_wp2_with fail
 refine (z_cq _ _ _ _ (by omega) HS.out (HI.out.later ((Below.refl _ _).alloc (Nat.le_refl _) _)) (HE.out.later ((Below.refl _ _).alloc (Nat.le_refl _) _))).mono ?_
 rintro e w1 ⟨v, rfl, hb1, k', d', hv, hd⟩
 obtain ⟨⟨x0, x1, x2, x3, x4⟩, hf, hlt⟩ := box5 hb1
 have HB : Hid (Below w.heap.size w w1) := ((Below.refl _ _).alloc (Nat.le_refl _) _).trans (hb1.mono (by simp))
 obtain ⟨bo, cap', rfl, hcp, hv⟩ := hv
 simp at hv
 have HV : Hid (StrsAt (w.heap.size + 1) w1.heap.size w1 bo d'.args) := hv
 have HD : Hid (∀ d, pOperand ws = some d → d' = d ∧ k' = 0) := hd
 clear hb1 hv hd
 go_wp2
 refine bodyPost_ret (v := .tuple #[.agg #[.int .i64 k', .string d'.to, .string d'.name, .slice bo d'.args.length cap', .string d'.undo], .bool (pOperand ws).isSome]) (by simp [results, Tryz.results160, go_sem, x0, x1, x2, x3, x4]) rfl ?_
 exact ⟨_, rfl, z_aw _ (Nat.le_refl _) HB.out, k', d', ⟨bo, cap', rfl, hcp, by rw [z_bu]; exact (HV.out.set5 _ (.inl (by omega))).mono (by omega) (Nat.le_refl _)⟩, HD.out⟩
theorem z_iB (ao : Option Addr) (cap : Nat) (ws : List ByteArray) (w : World) (hcap : ws.length ≤ cap) (hl : ws.length ≤ 4398046511000) (hs : ∀ s ∈ ws, s.size ≤ 2199023255552) (hi : StrsAt 0 w.heap.size w ao ws) (he : Env w) :
  Calls Tryz.prog 160 #[.int .i64 5, .slice ao ws.length cap] w fun e w' => ReadEnd (pGet ws) 0 w e w' := by
 have HI : Hid (StrsAt 0 w.heap.size w ao ws) := hi
 have HS : Hid (∀ s ∈ ws, s.size ≤ 2199023255552) := hs
 have HE : Hid (Env w) := he
 clear hi hs he
 go_enter Tryz.func160, Tryz.ntmps160
 go_wp2_with fail
 refine (z_jH _ _ _ _ hcap (by omega) HS.out (HI.out.later ((Below.refl _ _).alloc (Nat.le_refl _) _)) (HE.out.later ((Below.refl _ _).alloc (Nat.le_refl _) _))).mono ?_
 rintro e w1 ⟨v, rfl, hb1, k', d', hv, hd⟩
 obtain ⟨⟨x0, x1, x2, x3, x4⟩, hf, hlt⟩ := box5 hb1
 have HB : Hid (Below w.heap.size w w1) := ((Below.refl _ _).alloc (Nat.le_refl _) _).trans (hb1.mono (by simp))
 obtain ⟨bo, cap', rfl, hcp, hv⟩ := hv
 simp at hv
 have HV : Hid (StrsAt (w.heap.size + 1) w1.heap.size w1 bo d'.args) := hv
 have HD : Hid (∀ d, pGet ws = some d → d' = d ∧ k' = 0) := hd
 clear hb1 hv hd
 go_wp2
 refine bodyPost_ret (v := .tuple #[.agg #[.int .i64 k', .string d'.to, .string d'.name, .slice bo d'.args.length cap', .string d'.undo], .bool (pGet ws).isSome]) (by simp [results, Tryz.results160, go_sem, x0, x1, x2, x3, x4]) rfl ?_
 exact ⟨_, rfl, z_aw _ (Nat.le_refl _) HB.out, k', d', ⟨bo, cap', rfl, hcp, by rw [z_bu]; exact (HV.out.set5 _ (.inl (by omega))).mono (by omega) (Nat.le_refl _)⟩, HD.out⟩
theorem z_iY (ao : Option Addr) (cap : Nat) (ws : List ByteArray) (w : World) (hcap : ws.length ≤ cap) (hl : ws.length ≤ 4398046511000) (hs : ∀ s ∈ ws, s.size ≤ 2199023255552) (hi : StrsAt 0 w.heap.size w ao ws) (he : Env w) :
  Calls Tryz.prog 160 #[.int .i64 6, .slice ao ws.length cap] w fun e w' => ReadEnd (pTest ws) 0 w e w' := by
 have HI : Hid (StrsAt 0 w.heap.size w ao ws) := hi
 have HS : Hid (∀ s ∈ ws, s.size ≤ 2199023255552) := hs
 have HE : Hid (Env w) := he
 clear hi hs he
 go_enter Tryz.func160, Tryz.ntmps160
 go_wp2_with fail
 refine (z_ej _ _ _ _ (by omega) HS.out (HI.out.later ((Below.refl _ _).alloc (Nat.le_refl _) _)) (HE.out.later ((Below.refl _ _).alloc (Nat.le_refl _) _))).mono ?_
 rintro e w1 ⟨v, rfl, hb1, k', d', hv, hd⟩
 obtain ⟨⟨x0, x1, x2, x3, x4⟩, hf, hlt⟩ := box5 hb1
 have HB : Hid (Below w.heap.size w w1) := ((Below.refl _ _).alloc (Nat.le_refl _) _).trans (hb1.mono (by simp))
 obtain ⟨bo, cap', rfl, hcp, hv⟩ := hv
 simp at hv
 have HV : Hid (StrsAt (w.heap.size + 1) w1.heap.size w1 bo d'.args) := hv
 have HD : Hid (∀ d, pTest ws = some d → d' = d ∧ k' = 0) := hd
 clear hb1 hv hd
 go_wp2
 refine bodyPost_ret (v := .tuple #[.agg #[.int .i64 k', .string d'.to, .string d'.name, .slice bo d'.args.length cap', .string d'.undo], .bool (pTest ws).isSome]) (by simp [results, Tryz.results160, go_sem, x0, x1, x2, x3, x4]) rfl ?_
 exact ⟨_, rfl, z_aw _ (Nat.le_refl _) HB.out, k', d', ⟨bo, cap', rfl, hcp, by rw [z_bu]; exact (HV.out.set5 _ (.inl (by omega))).mono (by omega) (Nat.le_refl _)⟩, HD.out⟩
theorem z_iL (ao : Option Addr) (cap : Nat) (ws : List ByteArray) (w : World) (hcap : ws.length ≤ cap) (hl : ws.length ≤ 4398046511000) (hs : ∀ s ∈ ws, s.size ≤ 2199023255552) (hi : StrsAt 0 w.heap.size w ao ws) (he : Env w) :
  Calls Tryz.prog 160 #[.int .i64 7, .slice ao ws.length cap] w fun e w' => ReadEnd (pNothing ws) 0 w e w' := by
 have HI : Hid (StrsAt 0 w.heap.size w ao ws) := hi
 have HS : Hid (∀ s ∈ ws, s.size ≤ 2199023255552) := hs
 have HE : Hid (Env w) := he
 clear hi hs he
 go_enter Tryz.func160, Tryz.ntmps160
 go_wp2_with fail
 refine (z_bP _ _ _ _ (by omega)).mono ?_
 rintro e w1 ⟨v, rfl, hb1, k', d', hv, hd⟩
 obtain ⟨⟨x0, x1, x2, x3, x4⟩, hf, hlt⟩ := box5 hb1
 have HB : Hid (Below w.heap.size w w1) := ((Below.refl _ _).alloc (Nat.le_refl _) _).trans (hb1.mono (by simp))
 obtain ⟨bo, cap', rfl, hcp, hv⟩ := hv
 simp at hv
 have HV : Hid (StrsAt (w.heap.size + 1) w1.heap.size w1 bo d'.args) := hv
 have HD : Hid (∀ d, pNothing ws = some d → d' = d ∧ k' = 0) := hd
 clear hb1 hv hd
 go_wp2
 refine bodyPost_ret (v := .tuple #[.agg #[.int .i64 k', .string d'.to, .string d'.name, .slice bo d'.args.length cap', .string d'.undo], .bool (pNothing ws).isSome]) (by simp [results, Tryz.results160, go_sem, x0, x1, x2, x3, x4]) rfl ?_
 exact ⟨_, rfl, z_aw _ (Nat.le_refl _) HB.out, k', d', ⟨bo, cap', rfl, hcp, by rw [z_bu]; exact (HV.out.set5 _ (.inl (by omega))).mono (by omega) (Nat.le_refl _)⟩, HD.out⟩
theorem z_ir (ao : Option Addr) (cap : Nat) (ws : List ByteArray) (w : World) (hcap : ws.length ≤ cap) (hl : ws.length ≤ 4398046511000) (hs : ∀ s ∈ ws, s.size ≤ 2199023255552) (hi : StrsAt 0 w.heap.size w ao ws) (he : Env w) :
  Calls Tryz.prog 160 #[.int .i64 8, .slice ao ws.length cap] w fun e w' => ReadEnd (pTest ws) 0 w e w' := by
 have HI : Hid (StrsAt 0 w.heap.size w ao ws) := hi
 have HS : Hid (∀ s ∈ ws, s.size ≤ 2199023255552) := hs
 have HE : Hid (Env w) := he
 clear hi hs he
 go_enter Tryz.func160, Tryz.ntmps160
 go_wp2_with fail
 refine (z_ej _ _ _ _ (by omega) HS.out (HI.out.later ((Below.refl _ _).alloc (Nat.le_refl _) _)) (HE.out.later ((Below.refl _ _).alloc (Nat.le_refl _) _))).mono ?_
 rintro e w1 ⟨v, rfl, hb1, k', d', hv, hd⟩
 obtain ⟨⟨x0, x1, x2, x3, x4⟩, hf, hlt⟩ := box5 hb1
 have HB : Hid (Below w.heap.size w w1) := ((Below.refl _ _).alloc (Nat.le_refl _) _).trans (hb1.mono (by simp))
 obtain ⟨bo, cap', rfl, hcp, hv⟩ := hv
 simp at hv
 have HV : Hid (StrsAt (w.heap.size + 1) w1.heap.size w1 bo d'.args) := hv
 have HD : Hid (∀ d, pTest ws = some d → d' = d ∧ k' = 0) := hd
 clear hb1 hv hd
 go_wp2
 refine bodyPost_ret (v := .tuple #[.agg #[.int .i64 k', .string d'.to, .string d'.name, .slice bo d'.args.length cap', .string d'.undo], .bool (pTest ws).isSome]) (by simp [results, Tryz.results160, go_sem, x0, x1, x2, x3, x4]) rfl ?_
 exact ⟨_, rfl, z_aw _ (Nat.le_refl _) HB.out, k', d', ⟨bo, cap', rfl, hcp, by rw [z_bu]; exact (HV.out.set5 _ (.inl (by omega))).mono (by omega) (Nat.le_refl _)⟩, HD.out⟩
theorem z_if (ao : Option Addr) (cap : Nat) (ws : List ByteArray) (w : World) (hcap : ws.length ≤ cap) (hl : ws.length ≤ 4398046511000) (hs : ∀ s ∈ ws, s.size ≤ 2199023255552) (hi : StrsAt 0 w.heap.size w ao ws) (he : Env w) :
  Calls Tryz.prog 160 #[.int .i64 9, .slice ao ws.length cap] w fun e w' => ReadEnd (pNothing ws) 0 w e w' := by
 have HI : Hid (StrsAt 0 w.heap.size w ao ws) := hi
 have HS : Hid (∀ s ∈ ws, s.size ≤ 2199023255552) := hs
 have HE : Hid (Env w) := he
 clear hi hs he
 go_enter Tryz.func160, Tryz.ntmps160
 go_wp2_with fail
 refine (z_bP _ _ _ _ (by omega)).mono ?_
 rintro e w1 ⟨v, rfl, hb1, k', d', hv, hd⟩
 obtain ⟨⟨x0, x1, x2, x3, x4⟩, hf, hlt⟩ := box5 hb1
 have HB : Hid (Below w.heap.size w w1) := ((Below.refl _ _).alloc (Nat.le_refl _) _).trans (hb1.mono (by simp))
 obtain ⟨bo, cap', rfl, hcp, hv⟩ := hv
 simp at hv
 have HV : Hid (StrsAt (w.heap.size + 1) w1.heap.size w1 bo d'.args) := hv
 have HD : Hid (∀ d, pNothing ws = some d → d' = d ∧ k' = 0) := hd
 clear hb1 hv hd
 go_wp2
 refine bodyPost_ret (v := .tuple #[.agg #[.int .i64 k', .string d'.to, .string d'.name, .slice bo d'.args.length cap', .string d'.undo], .bool (pNothing ws).isSome]) (by simp [results, Tryz.results160, go_sem, x0, x1, x2, x3, x4]) rfl ?_
 exact ⟨_, rfl, z_aw _ (Nat.le_refl _) HB.out, k', d', ⟨bo, cap', rfl, hcp, by rw [z_bu]; exact (HV.out.set5 _ (.inl (by omega))).mono (by omega) (Nat.le_refl _)⟩, HD.out⟩
theorem z_hh (ao : Option Addr) (cap : Nat) (ws : List ByteArray) (w : World) (hcap : ws.length ≤ cap) (hl : ws.length ≤ 4398046511000) (hs : ∀ s ∈ ws, s.size ≤ 2199023255552) (hi : StrsAt 0 w.heap.size w ao ws) (he : Env w) :
  Calls Tryz.prog 160 #[.int .i64 10, .slice ao ws.length cap] w fun e w' => ReadEnd (pNothing ws) 0 w e w' := by
 have HI : Hid (StrsAt 0 w.heap.size w ao ws) := hi
 have HS : Hid (∀ s ∈ ws, s.size ≤ 2199023255552) := hs
 have HE : Hid (Env w) := he
 clear hi hs he
 go_enter Tryz.func160, Tryz.ntmps160
 go_wp2_with fail
 refine (z_bP _ _ _ _ (by omega)).mono ?_
 rintro e w1 ⟨v, rfl, hb1, k', d', hv, hd⟩
 obtain ⟨⟨x0, x1, x2, x3, x4⟩, hf, hlt⟩ := box5 hb1
 have HB : Hid (Below w.heap.size w w1) := ((Below.refl _ _).alloc (Nat.le_refl _) _).trans (hb1.mono (by simp))
 obtain ⟨bo, cap', rfl, hcp, hv⟩ := hv
 simp at hv
 have HV : Hid (StrsAt (w.heap.size + 1) w1.heap.size w1 bo d'.args) := hv
 have HD : Hid (∀ d, pNothing ws = some d → d' = d ∧ k' = 0) := hd
 clear hb1 hv hd
 go_wp2
 refine bodyPost_ret (v := .tuple #[.agg #[.int .i64 k', .string d'.to, .string d'.name, .slice bo d'.args.length cap', .string d'.undo], .bool (pNothing ws).isSome]) (by simp [results, Tryz.results160, go_sem, x0, x1, x2, x3, x4]) rfl ?_
 exact ⟨_, rfl, z_aw _ (Nat.le_refl _) HB.out, k', d', ⟨bo, cap', rfl, hcp, by rw [z_bu]; exact (HV.out.set5 _ (.inl (by omega))).mono (by omega) (Nat.le_refl _)⟩, HD.out⟩
theorem z_hm (ao : Option Addr) (cap : Nat) (ws : List ByteArray) (w : World) (hcap : ws.length ≤ cap) (hl : ws.length ≤ 4398046511000) (hs : ∀ s ∈ ws, s.size ≤ 2199023255552) (hi : StrsAt 0 w.heap.size w ao ws) (he : Env w) :
  Calls Tryz.prog 160 #[.int .i64 11, .slice ao ws.length cap] w fun e w' => ReadEnd (pNothing ws) 0 w e w' := by
 have HI : Hid (StrsAt 0 w.heap.size w ao ws) := hi
 have HS : Hid (∀ s ∈ ws, s.size ≤ 2199023255552) := hs
 have HE : Hid (Env w) := he
 clear hi hs he
 go_enter Tryz.func160, Tryz.ntmps160
 go_wp2_with fail
 refine (z_bP _ _ _ _ (by omega)).mono ?_
 rintro e w1 ⟨v, rfl, hb1, k', d', hv, hd⟩
 obtain ⟨⟨x0, x1, x2, x3, x4⟩, hf, hlt⟩ := box5 hb1
 have HB : Hid (Below w.heap.size w w1) := ((Below.refl _ _).alloc (Nat.le_refl _) _).trans (hb1.mono (by simp))
 obtain ⟨bo, cap', rfl, hcp, hv⟩ := hv
 simp at hv
 have HV : Hid (StrsAt (w.heap.size + 1) w1.heap.size w1 bo d'.args) := hv
 have HD : Hid (∀ d, pNothing ws = some d → d' = d ∧ k' = 0) := hd
 clear hb1 hv hd
 go_wp2
 refine bodyPost_ret (v := .tuple #[.agg #[.int .i64 k', .string d'.to, .string d'.name, .slice bo d'.args.length cap', .string d'.undo], .bool (pNothing ws).isSome]) (by simp [results, Tryz.results160, go_sem, x0, x1, x2, x3, x4]) rfl ?_
 exact ⟨_, rfl, z_aw _ (Nat.le_refl _) HB.out, k', d', ⟨bo, cap', rfl, hcp, by rw [z_bu]; exact (HV.out.set5 _ (.inl (by omega))).mono (by omega) (Nat.le_refl _)⟩, HD.out⟩
theorem z_gS (ao : Option Addr) (cap : Nat) (ws : List ByteArray) (w : World) (hcap : ws.length ≤ cap) (hl : ws.length ≤ 4398046511000) (hs : ∀ s ∈ ws, s.size ≤ 2199023255552) (hi : StrsAt 0 w.heap.size w ao ws) (he : Env w) :
  Calls Tryz.prog 160 #[.int .i64 12, .slice ao ws.length cap] w fun e w' => ReadEnd (pOperand ws) 0 w e w' := by
 have HI : Hid (StrsAt 0 w.heap.size w ao ws) := hi
 have HS : Hid (∀ s ∈ ws, s.size ≤ 2199023255552) := hs
 have HE : Hid (Env w) := he
 clear hi hs he
 go_enter Tryz.func160, Tryz.ntmps160
 go_wp2_with fail
 refine (z_cq _ _ _ _ (by omega) HS.out (HI.out.later ((Below.refl _ _).alloc (Nat.le_refl _) _)) (HE.out.later ((Below.refl _ _).alloc (Nat.le_refl _) _))).mono ?_
 rintro e w1 ⟨v, rfl, hb1, k', d', hv, hd⟩
 obtain ⟨⟨x0, x1, x2, x3, x4⟩, hf, hlt⟩ := box5 hb1
 have HB : Hid (Below w.heap.size w w1) := ((Below.refl _ _).alloc (Nat.le_refl _) _).trans (hb1.mono (by simp))
 obtain ⟨bo, cap', rfl, hcp, hv⟩ := hv
 simp at hv
 have HV : Hid (StrsAt (w.heap.size + 1) w1.heap.size w1 bo d'.args) := hv
 have HD : Hid (∀ d, pOperand ws = some d → d' = d ∧ k' = 0) := hd
 clear hb1 hv hd
 go_wp2
 refine bodyPost_ret (v := .tuple #[.agg #[.int .i64 k', .string d'.to, .string d'.name, .slice bo d'.args.length cap', .string d'.undo], .bool (pOperand ws).isSome]) (by simp [results, Tryz.results160, go_sem, x0, x1, x2, x3, x4]) rfl ?_
 exact ⟨_, rfl, z_aw _ (Nat.le_refl _) HB.out, k', d', ⟨bo, cap', rfl, hcp, by rw [z_bu]; exact (HV.out.set5 _ (.inl (by omega))).mono (by omega) (Nat.le_refl _)⟩, HD.out⟩
theorem z_gL (ao : Option Addr) (cap : Nat) (ws : List ByteArray) (w : World) (hcap : ws.length ≤ cap) (hl : ws.length ≤ 4398046511000) (hs : ∀ s ∈ ws, s.size ≤ 2199023255552) (hi : StrsAt 0 w.heap.size w ao ws) (he : Env w) :
  Calls Tryz.prog 160 #[.int .i64 13, .slice ao ws.length cap] w fun e w' => ReadEnd (pOperand ws) 0 w e w' := by
 have HI : Hid (StrsAt 0 w.heap.size w ao ws) := hi
 have HS : Hid (∀ s ∈ ws, s.size ≤ 2199023255552) := hs
 have HE : Hid (Env w) := he
 clear hi hs he
 go_enter Tryz.func160, Tryz.ntmps160
 go_wp2_with fail
 refine (z_cq _ _ _ _ (by omega) HS.out (HI.out.later ((Below.refl _ _).alloc (Nat.le_refl _) _)) (HE.out.later ((Below.refl _ _).alloc (Nat.le_refl _) _))).mono ?_
 rintro e w1 ⟨v, rfl, hb1, k', d', hv, hd⟩
 obtain ⟨⟨x0, x1, x2, x3, x4⟩, hf, hlt⟩ := box5 hb1
 have HB : Hid (Below w.heap.size w w1) := ((Below.refl _ _).alloc (Nat.le_refl _) _).trans (hb1.mono (by simp))
 obtain ⟨bo, cap', rfl, hcp, hv⟩ := hv
 simp at hv
 have HV : Hid (StrsAt (w.heap.size + 1) w1.heap.size w1 bo d'.args) := hv
 have HD : Hid (∀ d, pOperand ws = some d → d' = d ∧ k' = 0) := hd
 clear hb1 hv hd
 go_wp2
 refine bodyPost_ret (v := .tuple #[.agg #[.int .i64 k', .string d'.to, .string d'.name, .slice bo d'.args.length cap', .string d'.undo], .bool (pOperand ws).isSome]) (by simp [results, Tryz.results160, go_sem, x0, x1, x2, x3, x4]) rfl ?_
 exact ⟨_, rfl, z_aw _ (Nat.le_refl _) HB.out, k', d', ⟨bo, cap', rfl, hcp, by rw [z_bu]; exact (HV.out.set5 _ (.inl (by omega))).mono (by omega) (Nat.le_refl _)⟩, HD.out⟩
theorem z_hb (ao : Option Addr) (cap : Nat) (ws : List ByteArray) (w : World) (hcap : ws.length ≤ cap) (hl : ws.length ≤ 4398046511000) (hs : ∀ s ∈ ws, s.size ≤ 2199023255552) (hi : StrsAt 0 w.heap.size w ao ws) (he : Env w) :
  Calls Tryz.prog 160 #[.int .i64 14, .slice ao ws.length cap] w fun e w' => ReadEnd (pPatch ws) 0 w e w' := by
 have HI : Hid (StrsAt 0 w.heap.size w ao ws) := hi
 have HS : Hid (∀ s ∈ ws, s.size ≤ 2199023255552) := hs
 have HE : Hid (Env w) := he
 clear hi hs he
 go_enter Tryz.func160, Tryz.ntmps160
 go_wp2_with fail
 refine (z_gP _ _ _ _ (by omega) HS.out (HI.out.later ((Below.refl _ _).alloc (Nat.le_refl _) _))).mono ?_
 rintro e w1 ⟨v, rfl, hb1, k', d', hv, hd⟩
 obtain ⟨⟨x0, x1, x2, x3, x4⟩, hf, hlt⟩ := box5 hb1
 have HB : Hid (Below w.heap.size w w1) := ((Below.refl _ _).alloc (Nat.le_refl _) _).trans (hb1.mono (by simp))
 obtain ⟨bo, cap', rfl, hcp, hv⟩ := hv
 simp at hv
 have HV : Hid (StrsAt (w.heap.size + 1) w1.heap.size w1 bo d'.args) := hv
 have HD : Hid (∀ d, pPatch ws = some d → d' = d ∧ k' = 0) := hd
 clear hb1 hv hd
 go_wp2
 refine bodyPost_ret (v := .tuple #[.agg #[.int .i64 k', .string d'.to, .string d'.name, .slice bo d'.args.length cap', .string d'.undo], .bool (pPatch ws).isSome]) (by simp [results, Tryz.results160, go_sem, x0, x1, x2, x3, x4]) rfl ?_
 exact ⟨_, rfl, z_aw _ (Nat.le_refl _) HB.out, k', d', ⟨bo, cap', rfl, hcp, by rw [z_bu]; exact (HV.out.set5 _ (.inl (by omega))).mono (by omega) (Nat.le_refl _)⟩, HD.out⟩
theorem z_gW (ao : Option Addr) (cap : Nat) (ws : List ByteArray) (w : World) (hcap : ws.length ≤ cap) (hl : ws.length ≤ 4398046511000) (hs : ∀ s ∈ ws, s.size ≤ 2199023255552) (hi : StrsAt 0 w.heap.size w ao ws) (he : Env w) :
  Calls Tryz.prog 160 #[.int .i64 15, .slice ao ws.length cap] w fun e w' => ReadEnd (pNext ws) 0 w e w' := by
 have HI : Hid (StrsAt 0 w.heap.size w ao ws) := hi
 have HS : Hid (∀ s ∈ ws, s.size ≤ 2199023255552) := hs
 have HE : Hid (Env w) := he
 clear hi hs he
 go_enter Tryz.func160, Tryz.ntmps160
 go_wp2_with fail
 refine (z_ei _ _ _ _ (by omega) HS.out (HI.out.later ((Below.refl _ _).alloc (Nat.le_refl _) _)) (HE.out.later ((Below.refl _ _).alloc (Nat.le_refl _) _))).mono ?_
 rintro e w1 ⟨v, rfl, hb1, k', d', hv, hd⟩
 obtain ⟨⟨x0, x1, x2, x3, x4⟩, hf, hlt⟩ := box5 hb1
 have HB : Hid (Below w.heap.size w w1) := ((Below.refl _ _).alloc (Nat.le_refl _) _).trans (hb1.mono (by simp))
 obtain ⟨bo, cap', rfl, hcp, hv⟩ := hv
 simp at hv
 have HV : Hid (StrsAt (w.heap.size + 1) w1.heap.size w1 bo d'.args) := hv
 have HD : Hid (∀ d, pNext ws = some d → d' = d ∧ k' = 0) := hd
 clear hb1 hv hd
 go_wp2
 refine bodyPost_ret (v := .tuple #[.agg #[.int .i64 k', .string d'.to, .string d'.name, .slice bo d'.args.length cap', .string d'.undo], .bool (pNext ws).isSome]) (by simp [results, Tryz.results160, go_sem, x0, x1, x2, x3, x4]) rfl ?_
 exact ⟨_, rfl, z_aw _ (Nat.le_refl _) HB.out, k', d', ⟨bo, cap', rfl, hcp, by rw [z_bu]; exact (HV.out.set5 _ (.inl (by omega))).mono (by omega) (Nat.le_refl _)⟩, HD.out⟩
theorem z_eC (k : Int) (h0 : k < 1 ∨ 15 < k) (v : Value) (ws : List ByteArray) (w : World) :
  Calls Tryz.prog 160 #[.int .i64 k, v] w fun e w' => ReadEnd (z_af k ws) 0 w e w' := by
 have HN : Hid (z_af k ws = none) := by
  show _ = _
  rw [z_af]
  repeat rw [if_neg (by omega)]
 have q1 : (k == 1) = false := by simp; omega
 have q2 : (k == 2) = false := by simp; omega
 have q3 : (k == 3) = false := by simp; omega
 have q4 : (k == 4) = false := by simp; omega
 have q5 : (k == 5) = false := by simp; omega
 have q6 : (k == 6) = false := by simp; omega
 have q7 : (k == 7) = false := by simp; omega
 have q8 : (k == 8) = false := by simp; omega
 have q9 : (k == 9) = false := by simp; omega
 have q10 : (k == 10) = false := by simp; omega
 have q11 : (k == 11) = false := by simp; omega
 have q12 : (k == 12) = false := by simp; omega
 have q13 : (k == 13) = false := by simp; omega
 have q14 : (k == 14) = false := by simp; omega
 have q15 : (k == 15) = false := by simp; omega
 clear h0
 go_enter Tryz.func160, Tryz.ntmps160
 go_wp2
 refine bodyPost_ret (v := .tuple #[.agg #[.int .i64 0, .string ⟨#[]⟩, .string ⟨#[]⟩, .slice none 0 0, .string ⟨#[]⟩], .bool false]) (by simp [results, Tryz.results160, go_sem]) rfl ?_
 exact ReadEnd.no HN.out rfl ((Below.refl _ _).alloc (Nat.le_refl _) _)
theorem z_dl (k : Int) (ao : Option Addr) (cap : Nat) (ws : List ByteArray) (w : World) (hcap : ws.length ≤ cap) (hl : ws.length ≤ 4398046511000) (hs : ∀ s ∈ ws, s.size ≤ 2199023255552) (hi : StrsAt 0 w.heap.size w ao ws) (he : Env w) :
  Calls Tryz.prog 160 #[.int .i64 k, .slice ao ws.length cap] w fun e w' => ReadEnd (z_af k ws) 0 w e w' := by
 by_cases h0 : k < 1 ∨ 15 < k
 ·exact z_eC k h0 _ ws w
 have hk : k = 1 ∨ k = 2 ∨ k = 3 ∨ k = 4 ∨ k = 5 ∨ k = 6 ∨ k = 7 ∨ k = 8 ∨ k = 9 ∨ k = 10 ∨ k = 11 ∨ k = 12 ∨ k = 13 ∨ k = 14 ∨ k = 15 := by omega
 rcases hk with rfl | rfl | rfl | rfl | rfl | rfl | rfl | rfl | rfl | rfl | rfl | rfl | rfl | rfl | rfl
 ·exact z_hN ao cap ws w hcap hl hs hi he
 ·exact z_iz ao cap ws w hcap hl hs hi he
 ·exact z_i4 ao cap ws w hcap hl hs hi he
 ·exact z_iO ao cap ws w hcap hl hs hi he
 ·exact z_iB ao cap ws w hcap hl hs hi he
 ·exact z_iY ao cap ws w hcap hl hs hi he
 ·exact z_iL ao cap ws w hcap hl hs hi he
 ·exact z_ir ao cap ws w hcap hl hs hi he
 ·exact z_if ao cap ws w hcap hl hs hi he
 ·exact z_hh ao cap ws w hcap hl hs hi he
 ·exact z_hm ao cap ws w hcap hl hs hi he
 ·exact z_gS ao cap ws w hcap hl hs hi he
 ·exact z_gL ao cap ws w hcap hl hs hi he
 ·exact z_hb ao cap ws w hcap hl hs hi he
 ·exact z_gW ao cap ws w hcap hl hs hi he
end
section
open Go.RowKit
theorem z_nZ {w1 : World} {b : Nat} {x0 x1 x2 x3 x4 : Value} {v0 v1 v2 v3 v4 : Value} (o : Obj) (hb : b < w1.heap.size)
  (h0 : w1.cell? ⟨b, 0, none⟩ = some x0) (h1 : w1.cell? ⟨b, 1, none⟩ = some x1) (h2 : w1.cell? ⟨b, 2, none⟩ = some x2) (h3 : w1.cell? ⟨b, 3, none⟩ = some x3) (h4 : w1.cell? ⟨b, 4, none⟩ = some x4) :
  let W := (((((w1.setCell ⟨b, 0, none⟩ v0).setCell ⟨b, 1, none⟩ v1).setCell ⟨b, 2, none⟩ v2).setCell ⟨b, 3, none⟩ v3).setCell ⟨b, 4, none⟩ v4).alloc o
  W.cell? ⟨b, 0, none⟩ = some v0 ∧ W.cell? ⟨b, 1, none⟩ = some v1 ∧ W.cell? ⟨b, 2, none⟩ = some v2 ∧ W.cell? ⟨b, 3, none⟩ = some v3 ∧ W.cell? ⟨b, 4, none⟩ = some v4 := by
 intro W
 have hW : ∀ n, W.cell? ⟨b, n, none⟩ = (((((w1.setCell ⟨b, 0, none⟩ v0).setCell ⟨b, 1, none⟩ v1).setCell ⟨b, 2, none⟩ v2).setCell ⟨b, 3, none⟩ v3).setCell ⟨b, 4, none⟩ v4).cell? ⟨b, n, none⟩ := fun n =>
  Below.cell (p := ⟨b, n, none⟩) ((Below.refl _ _).alloc (Nat.le_refl _) _) (by rw [z_bu]; exact hb)
 refine ⟨?_, ?_, ?_, ?_, ?_⟩ <;> rw [hW] <;> simp [go_sem, h0, h1, h2, h3, h4]
theorem z_er (ao : Option Addr) (cap : Nat) (a : ByteArray) (ws : List ByteArray) (w : World) (hcap : ws.length + 1 ≤ cap) (hl : ws.length ≤ 4398046511000) (hs : ∀ s ∈ a :: ws, s.size ≤ 2199023255552) (hi : StrsAt 0 w.heap.size w ao (a :: ws)) (he : Env w) :
  Calls Tryz.prog 122 #[.slice ao (ws.length + 1) cap] w fun e w' => ReadEnd (z_af (z_aN a) ws) (z_aN a) w e w' := by
 obtain ⟨g, off, rfl, hB, hc0⟩ := hi.at 0 (by simp)
 have hc : w.cell? ⟨g, off, none⟩ = some (.string a) := hc0
 obtain ⟨_, hBw⟩ := hB
 have HS : Hid (∀ s ∈ ws, s.size ≤ 2199023255552) := fun s h => hs s (by simp [h])
 have HE : Hid (Env w) := he
 obtain ⟨u, HU, HI⟩ : ∃ u : Option Addr, Hid (u = if cap = 1 then some ⟨g, off, none⟩ else some ⟨g, off + 1, none⟩) ∧ Hid (StrsAt 0 w.heap.size w u ws) := by
  by_cases h1 : cap = 1
  ·refine ⟨_, rfl, ?_⟩
   have e : ws = [] := List.length_eq_zero_iff.1 (by omega)
   subst e
   exact StrsAt.nil _ _ _ _
  ·refine ⟨_, rfl, ?_⟩
   rw [if_neg h1]
   intro k hk
   obtain ⟨g', off', e, hB', hc'⟩ := hi.at (k + 1) (by simpa using hk)
   cases e
   exact ⟨g, off + 1, rfl, ⟨Nat.zero_le _, hBw⟩, by rw [show off + 1 + k = off + (k + 1) by omega, hc']; simp [List.getD, hk]⟩
 clear hc0 hi hs he
 by_cases h1 : cap = 1
 ·subst h1
  have hU : u = some ⟨g, off, none⟩ := HU.out
  subst hU
  have e : ws = [] := List.length_eq_zero_iff.1 (by omega)
  subst e
  go_enter Tryz.func122, Tryz.ntmps122
  go_wp2_with (go_at_call 158; refine (z_dp _ _).mono ?_; rintro e w' ⟨rfl, rfl⟩)
  refine (z_dl _ (some ⟨g, off, none⟩) 0 [] _ (by simp) (by simp) HS.out (HI.out.later ((Below.refl _ _).alloc (Nat.le_refl _) _)) (HE.out.later ((Below.refl _ _).alloc (Nat.le_refl _) _))).mono ?_
  rintro e w1 ⟨v, rfl, hb1, k', d', hv, hd⟩
  obtain ⟨⟨x0, x1, x2, x3, x4⟩, hf, hlt⟩ := box5 hb1
  have HB : Hid (Below w.heap.size w w1) := ((Below.refl _ _).alloc (Nat.le_refl _) _).trans (hb1.mono (by simp))
  obtain ⟨bo, cap', rfl, hcp, hv⟩ := hv
  simp at hv
  have HV : Hid (StrsAt (w.heap.size + 1) w1.heap.size w1 bo d'.args) := hv
  have HD : Hid (∀ d, z_af (z_aN a) [] = some d → d' = d ∧ k' = 0) := hd
  clear hb1 hv hd
  go_wp2
  obtain ⟨y0, y1, y2, y3, y4⟩ := z_nZ (v0 := .int .i64 (z_aN a)) (v1 := .string d'.to) (v2 := .string d'.name) (v3 := .slice bo d'.args.length cap') (v4 := .string d'.undo) (Obj.cells #[.int .i64 (z_aN a), .string d'.to, .string d'.name, .slice bo d'.args.length cap', .string d'.undo] 49) hlt x0 x1 x2 x3 x4
  refine bodyPost_ret (v := .tuple #[.agg #[.int .i64 (z_aN a), .string d'.to, .string d'.name, .slice bo d'.args.length cap', .string d'.undo], .bool (z_af (z_aN a) []).isSome]) (by simp [results, Tryz.results122, go_sem, y0, y1, y2, y3, y4]) rfl ?_
  refine ⟨_, rfl, (z_aw _ (Nat.le_refl _) HB.out).alloc (by rw [z_bu]; exact HB.out.size) _, z_aN a, d', ⟨bo, cap', rfl, hcp, ?_⟩, fun d h => ⟨(HD.out d h).1, rfl⟩⟩
  refine (((HV.out.set5 _ (.inl (by omega))).below ((Below.refl _ _).alloc (by rw [z_bu]; exact Nat.le_refl _) _))).mono (by omega) ?_
  simp [World.alloc, World.setCell]
 ·have hU : u = some ⟨g, off + 1, none⟩ := by rw [HU.out, if_neg h1]
  subst hU
  have h2 : (1 : Int) < cap := by omega
  go_enter Tryz.func122, Tryz.ntmps122
  go_wp2_with (go_at_call 158; refine (z_dp _ _).mono ?_; rintro e w' ⟨rfl, rfl⟩)
  refine (z_dl _ (some ⟨g, off + 1, none⟩) (cap - 1) ws _ (by  omega) (by  omega) HS.out (HI.out.later ((Below.refl _ _).alloc (Nat.le_refl _) _)) (HE.out.later ((Below.refl _ _).alloc (Nat.le_refl _) _))).mono ?_
  rintro e w1 ⟨v, rfl, hb1, k', d', hv, hd⟩
  obtain ⟨⟨x0, x1, x2, x3, x4⟩, hf, hlt⟩ := box5 hb1
  have HB : Hid (Below w.heap.size w w1) := ((Below.refl _ _).alloc (Nat.le_refl _) _).trans (hb1.mono (by simp))
  obtain ⟨bo, cap', rfl, hcp, hv⟩ := hv
  simp at hv
  have HV : Hid (StrsAt (w.heap.size + 1) w1.heap.size w1 bo d'.args) := hv
  have HD : Hid (∀ d, z_af (z_aN a) ws = some d → d' = d ∧ k' = 0) := hd
  clear hb1 hv hd
  go_wp2
  obtain ⟨y0, y1, y2, y3, y4⟩ := z_nZ (v0 := .int .i64 (z_aN a)) (v1 := .string d'.to) (v2 := .string d'.name) (v3 := .slice bo d'.args.length cap') (v4 := .string d'.undo) (Obj.cells #[.int .i64 (z_aN a), .string d'.to, .string d'.name, .slice bo d'.args.length cap', .string d'.undo] 49) hlt x0 x1 x2 x3 x4
  refine bodyPost_ret (v := .tuple #[.agg #[.int .i64 (z_aN a), .string d'.to, .string d'.name, .slice bo d'.args.length cap', .string d'.undo], .bool (z_af (z_aN a) ws).isSome]) (by simp [results, Tryz.results122, go_sem, y0, y1, y2, y3, y4]) rfl ?_
  refine ⟨_, rfl, (z_aw _ (Nat.le_refl _) HB.out).alloc (by rw [z_bu]; exact HB.out.size) _, z_aN a, d', ⟨bo, cap', rfl, hcp, ?_⟩, fun d h => ⟨(HD.out d h).1, rfl⟩⟩
  refine (((HV.out.set5 _ (.inl (by omega))).below ((Below.refl _ _).alloc (by rw [z_bu]; exact Nat.le_refl _) _))).mono (by omega) ?_
  simp [World.alloc, World.setCell]
end
section
open Go.RowKit
theorem z_i7 (w : World) (a b : Value) (t : TypeId) : ∀ j u, [a, b][j]? = some u → (w.alloc (.cells #[a, b] t)).cell? ((⟨w.heap.size, 0, none⟩ : Addr).add j) = some u := by
 intro j u hj
 match j, hj with
 | 0, hj => simp at hj; subst hj; simp [Addr.add]
 | 1, hj => simp at hj; subst hj; simp [Addr.add]
 | j + 2, hj => simp at hj
def z_ew : ByteArray := ⟨#[117, 110, 100, 111]⟩
def z_cn (u : ByteArray) : List ByteArray := if u.size = 0 then [] else [z_ew, u]
theorem z_b8 {base n : Nat} {u : Value} {row : Option Nat} {A : List Value} {w wr w2 w3 : World} (ho : wr.ownsRow base 9 1 u n A) (hb : Below base w wr) (h2 : Below wr.heap.size wr w2) (hbase : base ≤ wr.heap.size)
  (hgrow : w2.grownBy w3 row) (hrow : row = u.ownBlock) : Below base w w3 :=
 Below.grown (hb.trans (h2.mono hbase)) hgrow (by have := h2.size; omega) (fun j hj => by rw [hrow] at hj; exact (ho.lt _ hj).1)
theorem z_bL (base : Nat) (v : Value) (acc : List ByteArray) (s : ByteArray) (w : World) (hown : w.ownsRow base 9 1 v acc.length (strCells acc)) (hbase : base ≤ w.heap.size) (hl : acc.length ≤ 4398046511000) :
  Calls Tryz.prog 82 #[v, .string s] w fun e w' => ∃ v', e = .returned v' ∧ Below base w w' ∧ w'.ownsRow base 9 1 v' (acc ++ z_cn s).length (strCells (acc ++ z_cn s)) := by
 obtain ⟨i0, hi0, hz0, hz1, hz2⟩ := info_parts Tryz.infoStr
 have HO : Hid (w.ownsRow base 9 1 v acc.length (strCells acc)) := hown
 clear hown
 by_cases hs : s.size = 0
 ·have HN : Hid (acc ++ z_cn s = acc) := by simp [Hid, z_cn, hs]
  have hq : s.toList.isEmpty = true := by rw [z_av]; simpa using hs
  have hq2 : (s.toList == []) = true := by rw [← hq]; cases s.toList <;> rfl
  clear hs
  go_enter Tryz.func82, Tryz.ntmps82
  go_wp2
  go_ret
  exact ⟨_, rfl, Below.refl _ _, by rw [HN.out]; exact HO.out⟩
 ·have HN : Hid (acc ++ z_cn s = acc ++ [z_ew, s]) := by simp only [Hid, z_cn]; rw [if_neg hs]
  have hq : s.toList.isEmpty = false := by rw [z_av]; simpa using hs
  have hq2 : (s.toList == []) = false := by rw [← hq]; cases s.toList <;> rfl
  clear hs
  go_enter Tryz.func82, Tryz.ntmps82
  go_wp2_with (at_builtin; refine wpList_append_own _ rfl _ _ 45 rfl base 9 i0 (.string ByteArray.empty) 1 16 Tryz.underlying45 hi0 hz0 hz1 hz2 rfl (by decide) _ _ _ rfl (HO.out.alloc _) ⟨w.heap.size, 0, none⟩ 2 2 [.string z_ew, .string s] rfl rfl (z_i7 _ _ _ _) (fun u hu => by simp at hu; rcases hu with rfl | rfl <;> rfl) (by unfold maxLen; omega) (by omega) (by simp; omega) ?_; intro v' w3 hown' hgrow3 hnil3; have hb3 := z_b8 HO.out (Below.refl _ _) ((Below.refl _ _).alloc (Nat.le_refl _) _) hbase hgrow3 (by rfl); have X : Aside (w3.ownsRow base 9 1 v' (acc ++ [z_ew, s]).length (strCells (acc ++ [z_ew, s])) ∧ Below base w w3) := ⟨by simpa [strCells] using hown', hb3⟩; clear hown' hgrow3 hnil3 hb3)
  go_ret
  exact ⟨_, rfl, X.out.2, by rw [HN.out]; exact X.out.1⟩
def branchK (k : Int) : Bool := k == 6 || k == 8
theorem z_cv (k : Int) (a b c d : Value) (w : World) : Calls Tryz.prog 121 #[.agg #[.int .i64 k, a, b, c, d]] w fun e w' => e = .returned (.bool (branchK k)) ∧ Below w.heap.size w w' := by
 go_enter Tryz.func121, Tryz.ntmps121
 go_wp2
 all_goals
  go_ret
  exact ⟨by simp only [branchK, *] <;> rfl, (Below.refl _ _).alloc (Nat.le_refl _) _⟩
end
end Go.Proofs.YtlbjjbolbopfmaaGreatDoor
