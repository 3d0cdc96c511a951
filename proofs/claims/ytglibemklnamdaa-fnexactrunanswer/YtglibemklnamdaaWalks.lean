/- The walks of the small functions: one contract each. -/
import Derived.Test.YtglibemklnamdaaRows
import Derived.Test.YtglibemklnamdaaReads
import Derived.WalkKit
import Derived.WalkSpells
import Derived.WalkLawsBesides
import Derived.Deep.QuietTactic
import Derived.BigQuiet
namespace Go.Proofs.Ytglibemklnamdaa
open Go.RowKit

def lim : Int := 1048576
/-- What is left behind a size: below nought it is -1. -/
def cut (x : Int) : Int := if x < 0 then -1 else x

set_option maxHeartbeats 400000 in
theorem szIntS_any (ao : Option Addr) (len cap : Nat) (left : Int) (w : World) (h0 : -1 ≤ left) (h1 : left ≤ 1048576) (hl : len ≤ 9223372036854775807) :
    Calls Try.prog 9 #[.slice ao len cap, .int .i64 left] w fun e w' => e = .returned (.int .i64 (cut (left - len))) ∧ w' = w := by
  unfold cut
  by_cases h : left - len < 0
  · rw [if_pos h]
    go_enter Try.func9, Try.ntmps9
    go_wp2
    go_ret
    exact ⟨rfl, rfl⟩
  · rw [if_neg h]
    go_enter Try.func9, Try.ntmps9
    go_wp2
    go_ret
    exact ⟨rfl, rfl⟩

set_option maxHeartbeats 400000 in
theorem notBelow_any (n : Int) (w : World) :
    Calls Try.prog 11 #[.int .i64 n, .int .i64 9973] w fun e w' => e = .returned (.int .i64 ((n.tmod 9973 + 9973).tmod 9973)) ∧ w' = w := by
  have hb := tmod_bd n
  obtain ⟨hb1, hb2⟩ := hb
  go_enter Try.func11, Try.ntmps11
  go_wp2
  go_ret
  exact ⟨by simp [Int.tmod_eq_emod_of_nonneg (show 0 ≤ n.tmod 9973 + 9973 by omega)], rfl⟩

set_option maxHeartbeats 1000000 in
theorem specRunAnswer_any (id : Int) (key name : ByteArray) (ao : Option Addr) (cap : Nat) (zs : List Int) (w : World)
    (hks : key.size ≤ 9223372036854775807) (hns' : name.size ≤ 9223372036854775807) (hz : zs.length ≤ 9223372036854775807) (hi : IntsAt 0 w.heap.size w ao zs) :
    Calls Try.prog 5 #[.agg #[.int .i64 id, .string key, .string name, .slice ao zs.length cap]] w fun e w' =>
      e = .returned (.int .i64 (said key.data.toList name.data.toList zs)) ∧ Below w.heap.size w w' := by
  have HI : Hid (IntsAt 0 w.heap.size w ao zs) := hi
  clear hi
  go_enter Try.func5, Try.ntmps5
  go_wp2
  go_loop [3, 4] (fun h i => ∃ k : Nat, k ≤ key.size ∧ i = .int .i64 k ∧ h = .int .i64 (hbs 7 (key.data.toList.take k))) (fun _ i => key.size - (intOf i).toNat)
  case atStart => exact ⟨0, Nat.zero_le _, rfl, rfl⟩
  case round =>
    obtain ⟨k, hk, rfl, rfl⟩ := hrel
    have hd := hbs_bd (key.data.toList.take k) 7 (by decide) (by decide)
    obtain ⟨hd0, hd1⟩ := hd
    by_cases hlt : k < key.size
    · have HS : Hid (hbs 7 (key.data.toList.take (k + 1)) = hb (hbs 7 (key.data.toList.take k)) key[k]) := hbs_snoc 7 key.data.toList k (by simpa using hlt)
      have hbt : (key[k].toNat : Int) < 256 := by have := key[k].toNat_lt; omega
      go_wp2
      go_round
      case rel => exact ⟨k + 1, by omega, by go_num, by rw [HS.out]; unfold hb; go_num⟩
      case measure => simp [intOf]; omega
    · have e0 : key.data.toList.take k = key.data.toList := List.take_of_length_le (by simp; omega)
      rw [e0] at hd0 hd1 ⊢
      clear e0
      go_wp2
      go_loop [3, 5] (fun h i => ∃ k : Nat, k ≤ name.size ∧ i = .int .i64 k ∧ h = .int .i64 (hbs (hbs 7 key.data.toList) (name.data.toList.take k))) (fun _ i => name.size - (intOf i).toNat)
      case atStart => exact ⟨0, Nat.zero_le _, rfl, rfl⟩
      case round =>
        obtain ⟨j, hj, rfl, rfl⟩ := hrel
        have hd := hbs_bd (name.data.toList.take j) (hbs 7 key.data.toList) hd0 hd1
        obtain ⟨hd2, hd3⟩ := hd
        by_cases hlt2 : j < name.size
        · have HS : Hid (hbs (hbs 7 key.data.toList) (name.data.toList.take (j + 1)) = hb (hbs (hbs 7 key.data.toList) (name.data.toList.take j)) name[j]) := hbs_snoc _ name.data.toList j (by simpa using hlt2)
          have hbt : (name[j].toNat : Int) < 256 := by have := name[j].toNat_lt; omega
          go_wp2
          go_round
          case rel => exact ⟨j + 1, by omega, by go_num, by rw [HS.out]; unfold hb; go_num⟩
          case measure => simp [intOf]; omega
        · have e1 : name.data.toList.take j = name.data.toList := List.take_of_length_le (by simp; omega)
          rw [e1] at hd2 hd3 ⊢
          clear e1
          go_wp2
          go_loop [3, 6] (fun h i => ∃ k : Nat, k ≤ zs.length ∧ i = .int .i64 k ∧ h = .int .i64 (hns (hbs (hbs 7 key.data.toList) name.data.toList) (zs.take k))) (fun _ i => zs.length - (intOf i).toNat)
          case atStart => exact ⟨0, Nat.zero_le _, rfl, rfl⟩
          case round =>
            obtain ⟨m, hm, rfl, rfl⟩ := hrel
            have hd := hns_bd (zs.take m) (hbs (hbs 7 key.data.toList) name.data.toList) hd2 hd3
            obtain ⟨hd4, hd5⟩ := hd
            by_cases hlt3 : m < zs.length
            · have HS : Hid (hns (hbs (hbs 7 key.data.toList) name.data.toList) (zs.take (m + 1)) = hn (hns (hbs (hbs 7 key.data.toList) name.data.toList) (zs.take m)) zs[m]) := hns_snoc _ zs m hlt3
              obtain ⟨b, off, rfl, hB, hc⟩ := HI.out m hlt3
              have ht := tmod_bd (zs[m])
              obtain ⟨ht0, ht1⟩ := ht
              rw [show zs.getD m 0 = zs[m] by simp [List.getD, hlt3]] at hc
              go_wp2
              go_round
              case rel => exact ⟨m + 1, by omega, by go_num, by rw [HS.out]; unfold hn; go_num⟩
              case measure => simp [intOf]; omega
            · have e2 : zs.take m = zs := List.take_of_length_le (by omega)
              rw [e2] at hd4 hd5 ⊢
              clear e2
              go_wp2
              go_ret
              exact ⟨rfl, (Below.refl _ _).alloc (Nat.le_refl _) _⟩
end Go.Proofs.Ytglibemklnamdaa
