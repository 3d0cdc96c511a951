import Derived.Test.YtlbjjbolbopfmaaGreatDoorJ17
import Derived.Test.YtlbjjbolbopfmaaGreatDoorJ06
import Derived.Deep.RegionWith
namespace Go.Proofs.YtlbjjbolbopfmaaGreatDoor
set_option maxHeartbeats 2000000
set_option maxRecDepth 1000000
set_option linter.unusedVariables false
section
open Go.RowKit
def z_bg (w : World) (k : Int) (ws : List ByteArray) (e : Ending) (w' : World) : Prop :=
 Below w.heap.size w w' ∧ ∃ (tt nm ud : ByteArray) (args : List ByteArray) (ao : Option Addr) (cap : Nat) (ok : Bool), e = .returned (.tuple #[.agg #[.int .i64 k, .string tt, .string nm, .slice ao args.length cap, .string ud], .bool ok]) ∧ args.length ≤ cap ∧ args.length ≤ ws.length ∧ StrsAt 0 w'.heap.size w' ao args ∧ (ok = true → z_af k ws = some ⟨tt, nm, args, ud⟩) ∧ (ok = false → z_af k ws = none)
theorem z_bG {w w' : World} {k : Int} {ws args : List ByteArray} {tt nm ud : ByteArray} {ao : Option Addr} {cap : Nat} (hb : Below w.heap.size w w') (hc : args.length ≤ cap) (hs : StrsAt 0 w'.heap.size w' ao args) (hr : z_af k ws = some ⟨tt, nm, args, ud⟩) (hle : args.length ≤ ws.length) :
  z_bg w k ws (.returned (.tuple #[.agg #[.int .i64 k, .string tt, .string nm, .slice ao args.length cap, .string ud], .bool true])) w' :=
 ⟨hb, tt, nm, ud, args, ao, cap, true, rfl, hc, hle, hs, fun _ => hr, fun h => Bool.noConfusion h⟩
theorem z_aH {w w' : World} {k : Int} {ws args : List ByteArray} {tt nm ud : ByteArray} {ao : Option Addr} {cap : Nat} (hb : Below w.heap.size w w') (hc : args.length ≤ cap) (hs : StrsAt 0 w'.heap.size w' ao args) (hr : z_af k ws = none) (hle : args.length ≤ ws.length) :
  z_bg w k ws (.returned (.tuple #[.agg #[.int .i64 k, .string tt, .string nm, .slice ao args.length cap, .string ud], .bool false])) w' :=
 ⟨hb, tt, nm, ud, args, ao, cap, false, rfl, hc, hle, hs, fun h => Bool.noConfusion h, fun _ => hr⟩
theorem z_ab (w : World) (o o' : Obj) : Below w.heap.size w ((w.alloc o).alloc o') := ((Below.refl _ _).alloc (Nat.le_refl _) _).alloc (by simp) _
theorem z_fZ (k : Nat) (hk : k = 7 ∨ k = 9 ∨ k = 10 ∨ k = 11) (ao : Option Addr) (c : Nat) (ws : List ByteArray) (w : World) (hl : ws.length ≤ 4398046511000) :
  Calls Tryz.prog 171 #[.int .i64 k, .slice ao ws.length c] w (z_bg w k ws) := by
 have HR : Hid (z_af (k : Int) ws = pNothing ws) := by rcases hk with rfl | rfl | rfl | rfl <;> rfl
 cases h0 : ((ws.length : Int) == 0) with
 | true =>
  have e0 : ws = [] := List.length_eq_zero_iff.1 (by have := eq_of_beq h0; omega)
  have HN : Hid (z_af (k : Int) ws = some ⟨eS, eS, [], eS⟩) := by show _ = _; rw [HR.out, e0]; rfl
  clear HR e0
  rcases hk with rfl | rfl | rfl | rfl
  all_goals
   go_enter Tryz.func171, Tryz.ntmps171
   go_wp2
   refine bodyPost_ret (v := .tuple #[.agg #[.int .i64 _, .string ⟨#[]⟩, .string ⟨#[]⟩, .slice none 0 0, .string ⟨#[]⟩], .bool true]) (by simp [results, Tryz.results171, go_sem]; rfl) rfl ?_
   exact z_bG (args := []) (z_ab _ _ _) (Nat.le_refl _) (StrsAt.nil _ _ _ _) HN.out (Nat.zero_le _)
 | false =>
  have HN : Hid (z_af (k : Int) ws = none) := by
   show _ = _; rw [HR.out]
   cases ws with
   | nil => simp at h0
   | cons => rfl
  clear HR
  rcases hk with rfl | rfl | rfl | rfl
  all_goals
   go_enter Tryz.func171, Tryz.ntmps171
   go_wp2
   refine bodyPost_ret (v := .tuple #[.agg #[.int .i64 _, .string ⟨#[]⟩, .string ⟨#[]⟩, .slice none 0 0, .string ⟨#[]⟩], .bool false]) (by simp [results, Tryz.results171, go_sem]; rfl) rfl ?_
   exact z_aH (args := []) (z_ab _ _ _) (Nat.le_refl _) (StrsAt.nil _ _ _ _) HN.out (Nat.zero_le _)
end
section
open Go.RowKit
theorem z_dN (k : Nat) (hk : k = 4 ∨ k = 12 ∨ k = 13) (ao : Option Addr) (c : Nat) (ws : List ByteArray) (w : World) (hl : ws.length ≤ 4398046511000) (h1 : ws.length = 1) (hc : ws.length ≤ c) (hz : ∀ s ∈ ws, s.size ≤ 9223372036854775807) (hi : StrsAt 0 w.heap.size w ao ws) :
  Calls Tryz.prog 171 #[.int .i64 k, .slice ao ws.length c] w (z_bg w k ws) := by
 have HR : Hid (z_af (k : Int) ws = pOperand ws) := by rcases hk with rfl | rfl | rfl <;> rfl
 have HI : Hid (StrsAt 0 w.heap.size w ao ws) := hi
 have HZ : Hid (∀ s ∈ ws, s.size ≤ 9223372036854775807) := hz
 have HC : Hid (ws.length ≤ c) := hc
 clear hi hz
 have h0 : ((ws.length : Int) == 1) = true := by rw [h1]; rfl
 have e1 : ws.length = 1 := h1
 clear h1
 cases ha : allB z_an ws with
 | true =>
  have HN : Hid (z_af (k : Int) ws = some ⟨eS, eS, ws, eS⟩) := by show _ = _; rw [HR.out, pOperand, if_pos e1, pNext, if_pos ⟨by omega, ha⟩]
  clear e1
  clear HR
  rcases hk with rfl | rfl | rfl
  all_goals
   go_enter Tryz.func171, Tryz.ntmps171
   go_wp2_with fail
   go_region_with (go_at_call 197; refine (z_aV ao c ws w.heap.size _ (by omega) HZ.out (HI.out.below (z_ab _ _ _).drew)).mono ?_; rintro e wx ⟨rfl, rfl⟩; rw [ha])
   all_goals
    go_wp2_with fail
    refine bodyPost_ret (v := .tuple #[.agg #[.int .i64 _, .string ⟨#[]⟩, .string ⟨#[]⟩, .slice ao ws.length c, .string ⟨#[]⟩], .bool true]) (by simp [results, Tryz.results171, go_sem]; rfl) rfl ?_
    exact z_bG (z_ab _ _ _).drew HC.out (HI.out.later (z_ab _ _ _).drew) HN.out (Nat.le_refl _)
 | false =>
  have HN : Hid (z_af (k : Int) ws = none) := by show _ = _; rw [HR.out, pOperand, if_pos e1, pNext, if_neg (fun h => by rw [ha] at h; exact Bool.noConfusion h.2)]
  clear e1
  clear HR
  rcases hk with rfl | rfl | rfl
  all_goals
   go_enter Tryz.func171, Tryz.ntmps171
   go_wp2_with fail
   go_region_with (go_at_call 197; refine (z_aV ao c ws w.heap.size _ (by omega) HZ.out (HI.out.below (z_ab _ _ _).drew)).mono ?_; rintro e wx ⟨rfl, rfl⟩; rw [ha])
   all_goals
    go_wp2_with fail
    refine bodyPost_ret (v := .tuple #[.agg #[.int .i64 _, .string ⟨#[]⟩, .string ⟨#[]⟩, .slice ao ws.length c, .string ⟨#[]⟩], .bool false]) (by simp [results, Tryz.results171, go_sem]; rfl) rfl ?_
    exact z_aH (z_ab _ _ _).drew HC.out (HI.out.later (z_ab _ _ _).drew) HN.out (Nat.le_refl _)
end
end Go.Proofs.YtlbjjbolbopfmaaGreatDoor
