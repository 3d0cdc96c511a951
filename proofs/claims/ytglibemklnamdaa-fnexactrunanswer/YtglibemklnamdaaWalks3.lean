/- The walks, part three: the structs, and the law. -/
import Derived.Test.YtglibemklnamdaaWalks2
namespace Go.Proofs.Ytglibemklnamdaa
open Go.RowKit

set_option maxHeartbeats 400000 in
theorem szRunAsk_any (id : Int) (key name : ByteArray) (ao : Option Addr) (len cap : Nat) (w : World)
    (hk : key.size ≤ 9223372036854775807) (hn : name.size ≤ 9223372036854775807) (hl : len ≤ 9223372036854775807) :
    Calls Try.prog 4 #[.agg #[.int .i64 id, .string key, .string name, .slice ao len cap], .int .i64 1048576] w fun e w' =>
      ∃ r : Int, e = .returned (.int .i64 r) ∧ (r < 0 ∨ (key.size ≤ 1048576 ∧ name.size ≤ 1048576 ∧ len ≤ 1048576 ∧ 0 ≤ r)) ∧ Below w.heap.size w w' := by
  by_cases h1 : (1048576 : Int) - key.size < 0
  · go_enter Try.func4, Try.ntmps4
    go_wp2
    go_ret
    exact ⟨_, rfl, .inl (by decide), (Below.refl _ _).alloc (Nat.le_refl _) _⟩
  by_cases h2 : (1048576 : Int) - key.size - name.size < 0
  · go_enter Try.func4, Try.ntmps4
    go_wp2
    go_ret
    exact ⟨_, rfl, .inl (by decide), (Below.refl _ _).alloc (Nat.le_refl _) _⟩
  by_cases h3 : (1048576 : Int) - key.size - name.size - len < 0
  · have hc : cut (1048576 - (key.size : Int) - name.size - len) = -1 := by unfold cut; rw [if_pos h3]
    go_enter Try.func4, Try.ntmps4
    go_wp2_with (go_at_call 9; refine (szIntS_any _ _ _ _ _ (by omega) (by omega) hl).mono ?_; rintro e w' ⟨rfl, rfl⟩; rw [hc])
    go_ret
    exact ⟨_, rfl, .inl (by decide), (Below.refl _ _).alloc (Nat.le_refl _) _⟩
  · have hc : cut (1048576 - (key.size : Int) - name.size - len) = 1048576 - (key.size : Int) - name.size - len := by unfold cut; rw [if_neg h3]
    go_enter Try.func4, Try.ntmps4
    go_wp2_with (go_at_call 9; refine (szIntS_any _ _ _ _ _ (by omega) (by omega) hl).mono ?_; rintro e w' ⟨rfl, rfl⟩; rw [hc])
    go_ret
    exact ⟨_, rfl, .inr ⟨by omega, by omega, by omega, by omega⟩, (Below.refl _ _).alloc (Nat.le_refl _) _⟩

theorem bcell {W w1 : World} (hb : Below W.heap.size W w1) : (∀ b o, b < W.heap.size → w1.cell? ⟨b, o, none⟩ = W.cell? ⟨b, o, none⟩) ∧ (∀ b o, b < W.heap.size → w1.frozen? ⟨b, o, none⟩ = W.frozen? ⟨b, o, none⟩) :=
  ⟨fun b o h => hb.cell (p := ⟨b, o, none⟩) h, fun b o h => hb.frozen (p := ⟨b, o, none⟩) h⟩

set_option maxHeartbeats 400000 in
theorem toRunAsk_any (id : Int) (key name : ByteArray) (ao : Option Addr) (cap : Nat) (zs : List Int) (w : World)
    (hz : zs.length ≤ 1048576) (hi : IntsAt 0 w.heap.size w ao zs) :
    Calls Try.prog 6 #[.agg #[.int .i64 id, .string key, .string name, .slice ao zs.length cap]] w fun e w' =>
      ∃ bo cap', e = .returned (.agg #[.int .i64 id, .string key, .string name, .slice bo zs.length cap']) ∧ Below w.heap.size w w' ∧ IntsAt w.heap.size w'.heap.size w' bo zs := by
  have HI : Hid (IntsAt 0 w.heap.size w ao zs) := hi
  clear hi
  go_enter Try.func6, Try.ntmps6
  go_wp2_with fail
  refine (toIntS_any _ _ _ _ hz (HI.out.later ((((Below.refl _ _).alloc (Nat.le_refl _) _).alloc (by simp) _).alloc (by simp; omega) _))).mono ?_
  rintro e w1 ⟨bo, cap', rfl, hb, hi1⟩
  simp at hi1
  have HI1 : Hid (IntsAt (w.heap.size + 1 + 1 + 1) w1.heap.size w1 bo zs) := hi1
  obtain ⟨hc, hf⟩ := bcell hb
  have HC : Hid (∀ o c, ((w.alloc (Obj.cells #[Value.int IntKind.i64 id, Value.string key, Value.string name, Value.slice ao zs.length cap] 24)).alloc (Obj.cells #[Value.int IntKind.i64 0, Value.string { data := #[] }, Value.string { data := #[] }, Value.slice none 0 0] 27)).cell? ⟨w.heap.size + 1, o, none⟩ = some c → w1.cell? ⟨w.heap.size + 1, o, none⟩ = some c) := by
    intro o c h
    rw [hc _ _ (by simp), World.cell?_alloc_past _ _ _ (by simp)]
    exact h
  have hz1 : w.heap.size + 2 < w1.heap.size := by have := hb.size; simp at this; omega
  have HB : Hid (Below w.heap.size w w1) := ((((Below.refl _ _).alloc (Nat.le_refl _) _).alloc (by simp) _).alloc (by simp; omega) _).trans (hb.mono (by simp; omega))
  clear hi1 hb
  go_wp2
  have c0 := HC.out 0 _ (by simp [go_sem]; rfl)
  have c1 := HC.out 1 _ (by simp [go_sem]; rfl)
  have c2 := HC.out 2 _ (by simp [go_sem]; rfl)
  have c3 := HC.out 3 _ (by simp [go_sem]; rfl)
  refine bodyPost_ret (v := .agg #[.int .i64 id, .string key, .string name, .slice bo zs.length cap']) (by simp [results, Try.results6, go_sem, c0, c1, c2, c3]) rfl ⟨bo, cap', rfl, ?_, ?_⟩
  · exact (((((HB.out.setCell (by simp; omega) _).setCell (by simp) _).setCell (by simp) _).setCell (by simp) _).setCell (by simp) _)
  · have es : ∀ (wx : World) (a : Addr) (u : Value), (wx.setCell a u).heap.size = wx.heap.size := fun wx a u => by simp [World.setCell]
    rw [es, es, es, es, es]
    exact ((((HI1.out.setCell (by simp) _).setCell (by simp) _).setCell (by simp) _).setCell (by simp) _).setCell (by simp) _ |>.mono (by omega) (Nat.le_refl _)

set_option maxHeartbeats 400000 in
theorem eqRunAsk_any (id : Int) (key name : ByteArray) (ao bo : Option Addr) (cap cap' : Nat) (zs : List Int) (w : World)
    (hz : zs.length ≤ 1048576) (hi : IntsAt 0 w.heap.size w ao zs) (hj : IntsAt 0 w.heap.size w bo zs) :
    Calls Try.prog 8 #[.agg #[.int .i64 id, .string key, .string name, .slice ao zs.length cap], .agg #[.int .i64 id, .string key, .string name, .slice bo zs.length cap']] w fun e w' =>
      e = .returned (.bool true) ∧ Below w.heap.size w w' := by
  have HI : Hid (IntsAt 0 w.heap.size w ao zs) := hi
  have HJ : Hid (IntsAt 0 w.heap.size w bo zs) := hj
  clear hi hj
  go_enter Try.func8, Try.ntmps8
  go_wp2_with fail
  have HB : Below w.heap.size w ((w.alloc (Obj.cells #[Value.int IntKind.i64 id, Value.string key, Value.string name, Value.slice ao zs.length cap] 27)).alloc (Obj.cells #[Value.int IntKind.i64 id, Value.string key, Value.string name, Value.slice bo zs.length cap'] 27)) :=
    ((Below.refl _ _).alloc (Nat.le_refl _) _).alloc (by simp) _
  refine (eqIntS_any _ _ _ _ _ _ _ (by omega) (HI.out.later HB) (HJ.out.later HB)).mono ?_
  rintro e w1 ⟨rfl, hb⟩
  have HC : Hid (Below w.heap.size w w1) := HB.trans (hb.mono (by simp; omega))
  clear hb HB
  go_wp2
  go_ret
  exact ⟨rfl, HC.out⟩
end Go.Proofs.Ytglibemklnamdaa
