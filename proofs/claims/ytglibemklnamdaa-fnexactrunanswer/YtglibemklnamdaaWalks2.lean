/- The walks, part two. -/
import Derived.Test.YtglibemklnamdaaWalks
namespace Go.Proofs.Ytglibemklnamdaa
open Go.RowKit

theorem Try.info3 : (Try.prog.info? 3).map (fun i => (i.zero, i.size, i.bytes)) = some (some (.int .i64 0), 1, 8) := by kernel_rfl

theorem bytesRow_at (s : ByteArray) (cap k : Nat) (hk : k < s.size) : (bytesRow s cap)[k]? = some (.int .u8 (s[k].toNat : Int)) := by
  unfold bytesRow
  have hk' : k < s.data.size := hk
  rw [Array.getElem?_append_left (by simpa using hk'), Array.getElem?_map, Array.getElem?_eq_getElem hk']
  rfl

theorem append_at (a b : ByteArray) (k : Nat) (hk : k < (a ++ b).size) : (a ++ b)[k] = (a.data.toList ++ b.data.toList)[k]'(by simpa using hk) := by
  have : (a ++ b)[k] = (a ++ b).data.toList[k]'(by simpa using hk) := rfl
  rw [this]
  congr 1

/-- The bytes that lie at a block are these. -/
def BytesLie (w : World) (g : Nat) (l : List UInt8) : Prop := ∀ k (h : k < l.length), w.cell? ⟨g, k, none⟩ = some (.int .u8 (l[k].toNat : Int))

theorem bytesLie_made (w : World) (o : Obj) (key name : ByteArray) (cp : Nat) (m : Nat × Nat) :
    BytesLie (((w.alloc o).alloc (.cells (bytesRow (key ++ name) cp) 5 m)).drew) (w.heap.size + 1) (key.data.toList ++ name.data.toList) := by
  intro k h
  have hs : k < (key ++ name).size := by simpa using h
  have e := bytesRow_at (key ++ name) cp k hs
  rw [append_at key name k hs] at e
  rw [← e]
  have hw : w.heap.size + 1 = (w.alloc o).heap.size := by simp
  rw [World.cell?_drew, hw]
  exact World.cell?_alloc_mark _ _ _ _ _

set_option maxHeartbeats 1000000 in
theorem implRunAnswer_any (id : Int) (key name : ByteArray) (ao : Option Addr) (cap : Nat) (zs : List Int) (w : World)
    (hks : key.size ≤ 1048576) (hns' : name.size ≤ 1048576) (hz : zs.length ≤ 1048576) (hi : IntsAt 0 w.heap.size w ao zs) :
    Calls Try.prog 7 #[.agg #[.int .i64 id, .string key, .string name, .slice ao zs.length cap]] w fun e w' =>
      e = .returned (.int .i64 (said key.data.toList name.data.toList zs)) ∧ Below w.heap.size w w' := by
  have HI : Hid (IntsAt 0 w.heap.size w ao zs) := hi
  clear hi
  have kc := fun (wx : World) (s : ByteArray) => run_bytes_of_string (P := Try.prog) wx 9 33 5 s Try.underlying9 Try.underlying33 Try.underlying5
  go_enter Try.func7, Try.ntmps7
  go_wp2
  go_loopw [3, 15] (fun h i wr => ∃ k : Nat, k ≤ key.size + name.size ∧ i = .int .i64 k ∧ h = .int .i64 (hbs 7 ((key.data.toList ++ name.data.toList).take k)) ∧ Hid (BytesLie wr (w.heap.size + 1) (key.data.toList ++ name.data.toList)) ∧ wr.cell? ⟨w.heap.size, 3, none⟩ = some (.slice ao zs.length cap) ∧ Below w.heap.size w wr) (fun _ i _ => key.size + name.size - (intOf i).toNat)
  case atStart => exact ⟨0, Nat.zero_le _, rfl, rfl, bytesLie_made w _ key name _ _, by simp [go_sem], (((Below.refl _ _).alloc (Nat.le_refl _) _).alloc (by simp) _).drew⟩
  case round =>
    obtain ⟨k, hk, rfl, rfl, HB, hargs, hbel⟩ := hrel
    have HBel : Hid (Below w.heap.size w wr) := hbel
    clear hbel
    have hd := hbs_bd ((key.data.toList ++ name.data.toList).take k) 7 (by decide) (by decide)
    obtain ⟨hd0, hd1⟩ := hd
    by_cases hlt : k < key.size + name.size
    · obtain ⟨c, hrow, hc0, HS⟩ : ∃ c : Nat, wr.cell? ⟨w.heap.size + 1, k, none⟩ = some (.int .u8 (c : Int)) ∧ c < 256 ∧ Hid (hbs 7 ((key.data.toList ++ name.data.toList).take (k + 1)) = (31 * hbs 7 ((key.data.toList ++ name.data.toList).take k) + (c : Int)) % 9973) := by
        have hs : k < (key.data.toList ++ name.data.toList).length := by simpa using hlt
        exact ⟨(key.data.toList ++ name.data.toList)[k].toNat, HB.out k hs, (key.data.toList ++ name.data.toList)[k].toNat_lt, hbs_snoc 7 (key.data.toList ++ name.data.toList) k hs⟩
      go_wp2
      go_roundw
      case rel => exact ⟨k + 1, by omega, by go_num, by rw [HS.out], HB, hargs, HBel.out⟩
      case measure => simp [intOf]; omega
    · have e0 : (key.data.toList ++ name.data.toList).take k = key.data.toList ++ name.data.toList := List.take_of_length_le (by simp; omega)
      rw [e0, hbs_app] at hd0 hd1 ⊢
      clear e0
      go_wp2
      go_loop [3, 29] (fun h i => ∃ k : Nat, k ≤ zs.length ∧ i = .int .i64 k ∧ h = .int .i64 (hns (hbs (hbs 7 key.data.toList) name.data.toList) (zs.take k))) (fun _ i => zs.length - (intOf i).toNat)
      case atStart => exact ⟨0, Nat.zero_le _, rfl, rfl⟩
      case round =>
        obtain ⟨m, hm, rfl, rfl⟩ := hrel
        have hd := hns_bd (zs.take m) (hbs (hbs 7 key.data.toList) name.data.toList) hd0 hd1
        obtain ⟨hd4, hd5⟩ := hd
        by_cases hlt3 : m < zs.length
        · obtain ⟨b, off, rfl, hB, hc⟩ := (IntsAt.below HI.out HBel.out) m hlt3
          rw [show zs.getD m 0 = zs[m] by simp [List.getD, hlt3]] at hc
          have HS : Hid (hns (hbs (hbs 7 key.data.toList) name.data.toList) (zs.take (m + 1)) = (31 * hns (hbs (hbs 7 key.data.toList) name.data.toList) (zs.take m) + (zs[m].tmod 9973 + 9973).tmod 9973) % 9973) := by
            rw [hn_eq]; exact hns_snoc _ zs m hlt3
          have ht : 0 ≤ (zs[m].tmod 9973 + 9973).tmod 9973 ∧ (zs[m].tmod 9973 + 9973).tmod 9973 < 9973 := by
            have := tmod_bd zs[m]
            rw [Int.tmod_eq_emod_of_nonneg (by omega)]; omega
          obtain ⟨ht0, ht1⟩ := ht
          go_wp2_with (go_at_call 11; refine (notBelow_any _ _).mono ?_; rintro e w' ⟨rfl, rfl⟩)
          go_round
          case rel => exact ⟨m + 1, by omega, by go_num, by rw [HS.out]⟩
          case measure => simp [intOf]; omega
        · have e2 : zs.take m = zs := List.take_of_length_le (by omega)
          rw [e2] at hd4 hd5 ⊢
          clear e2
          go_wp2
          go_ret
          exact ⟨rfl, HBel.out⟩

set_option maxHeartbeats 1000000 in
theorem eqIntS_any (ao bo : Option Addr) (cap cap' : Nat) (zs : List Int) (w : World) (B : Nat)
    (hz : zs.length ≤ 9223372036854775807) (hi : IntsAt 0 B w ao zs) (hj : IntsAt 0 B w bo zs) :
    Calls Try.prog 12 #[.slice ao zs.length cap, .slice bo zs.length cap'] w fun e w' => e = .returned (.bool true) ∧ Below w.heap.size w w' := by
  have HI : Hid (IntsAt 0 B w ao zs) := hi
  have HJ : Hid (IntsAt 0 B w bo zs) := hj
  clear hi hj
  go_enter Try.func12, Try.ntmps12
  go_wp2
  go_loopw [5] (fun i w' => ∃ k n : Nat, k ≤ zs.length ∧ i = .int .i64 k ∧ w' = w.drewN n) (fun i _ => zs.length - (intOf i).toNat)
  case atStart => exact ⟨0, 0, Nat.zero_le _, rfl, rfl⟩
  case round =>
    obtain ⟨k, n, hk, rfl, rfl⟩ := hrel
    by_cases hlt : k < zs.length
    · obtain ⟨b, off, rfl, hB, hc⟩ := HI.out k hlt
      obtain ⟨b', off', rfl, hB', hc'⟩ := HJ.out k hlt
      rw [show zs.getD k 0 = zs[k] by simp [List.getD, hlt]] at hc hc'
      go_wp2
      go_quiet (fail)
      go_wp2
      go_roundw
      case rel => exact ⟨k + 1, n + nq, by omega, by go_num, rfl⟩
      case measure => simp [intOf]; omega
    · go_wp2
      go_ret
      exact ⟨rfl, ⟨rfl, rfl, rfl, Nat.le_refl _, fun _ _ => rfl⟩⟩

/-- A row of noughts of which the first k cells are filled. -/
def filled (zs : List Int) (k : Nat) : List Value := (zs.take k).map (Value.int .i64) ++ List.replicate (zs.length - k) (.int .i64 0)
theorem filled_at (zs : List Int) (k : Nat) (h : k < zs.length) : (filled zs k)[k]? = some (.int .i64 0) := by
  unfold filled
  rw [List.getElem?_append_right (by simp; omega)]
  simp [List.getElem?_replicate]; omega
theorem filled_set (zs : List Int) (k : Nat) (h : k < zs.length) : (filled zs k).set k (.int .i64 zs[k]) = filled zs (k + 1) := by
  unfold filled
  rw [List.set_append_right _ _ (by simp; omega), List.take_succ_eq_append_getElem h]
  have e : zs.length - k = (zs.length - (k + 1)) + 1 := by omega
  have e2 : k - (List.map (Value.int .i64) (List.take k zs)).length = 0 := by simp; omega
  rw [e2, e, List.replicate_succ]
  simp only [List.set_cons_zero, List.map_append, List.map_cons, List.map_nil, List.append_assoc, List.singleton_append]
theorem filled_all (zs : List Int) (j : Nat) (h : j < zs.length) : (filled zs zs.length)[j]? = some (.int .i64 (zs.getD j 0)) := by
  unfold filled
  simp [h, List.getD]

set_option maxHeartbeats 400000 in
theorem toIntS_any (ao : Option Addr) (cap : Nat) (zs : List Int) (w : World)
    (hz : zs.length ≤ 1048576) (hi : IntsAt 0 w.heap.size w ao zs) :
    Calls Try.prog 10 #[.slice ao zs.length cap] w fun e w' => ∃ bo cap', e = .returned (.slice bo zs.length cap') ∧ Below w.heap.size w w' ∧ IntsAt w.heap.size w'.heap.size w' bo zs := by
  have HI : Hid (IntsAt 0 w.heap.size w ao zs) := hi
  clear hi
  obtain ⟨i0, hi0, hz0, hz1, hz2⟩ := info_parts Try.info3
  go_enter Try.func10, Try.ntmps10
  go_wp2_with (at_make; refine wpList_make_full _ rfl _ _ 22 rfl w.heap.size 3 i0 (.int .i64 0) 1 Try.underlying22 hi0 hz0 hz1 _ _ _ _ zs.length rfl rfl rfl rfl (by rw [hz2]; omega) (by unfold maxLen; omega) (Nat.le_refl _) ?_; intro w1 hown hgrow)
  have hown' : w1.ownsRow w.heap.size 3 1 (.slice (some ⟨w.heap.size, 0, none⟩) zs.length zs.length) zs.length (filled zs 0) := by
    have e : (madeCells (Value.int .i64 0).cells (zs.length * 1)).toList = List.replicate zs.length (.int .i64 0) := by
      rw [Nat.mul_one]; exact toList_madeCells_one _ _
    rw [e] at hown
    simpa [filled] using hown
  have hbel : Below w.heap.size w w1 := (Below.refl _ _).grown hgrow (Nat.le_refl _) (by simp)
  clear hown hgrow
  go_loopw [4] (fun i wr => ∃ k : Nat, k ≤ zs.length ∧ i = .int .i64 k ∧ wr.ownsRow w.heap.size 3 1 (.slice (some ⟨w.heap.size, 0, none⟩) zs.length zs.length) zs.length (filled zs k) ∧ Below w.heap.size w wr) (fun i _ => zs.length - (intOf i).toNat)
  case atStart => exact ⟨0, Nat.zero_le _, rfl, hown', hbel⟩
  case round =>
    clear hown' hbel
    obtain ⟨k, hk, rfl, hown, hbel⟩ := hrel
    by_cases hlt : k < zs.length
    · obtain ⟨b, off, rfl, hB, hc⟩ := HI.out k hlt
      rw [show zs.getD k 0 = zs[k] by simp [List.getD, hlt]] at hc
      have hc2 := (hbel.cell (p := ⟨b, off + k, none⟩) hB.2).trans hc
      have hf := hown.frozenAt k
      have hold : wr.cell? ⟨w.heap.size, k, none⟩ = some (.int .i64 0) := by
        rw [hown.cellAt k (by omega)]; exact filled_at zs k hlt
      have hst := hown.stored k (.int .i64 zs[k])
      have R : Hid ((wr.setCell ⟨w.heap.size, k, none⟩ (.int .i64 zs[k])).ownsRow w.heap.size 3 1 (.slice (some ⟨w.heap.size, 0, none⟩) zs.length zs.length) zs.length (filled zs (k + 1)) ∧ Below w.heap.size w (wr.setCell ⟨w.heap.size, k, none⟩ (.int .i64 zs[k]))) :=
        ⟨by rw [← filled_set zs k hlt]; exact hst.1, hbel.setCell (Nat.le_refl _) _⟩
      clear hst hown hbel
      go_wp2
      go_roundw
      case rel => exact ⟨k + 1, by omega, by go_num, R.out.1, R.out.2⟩
      case measure => simp [intOf]; omega
    · go_wp2
      go_ret
      refine ⟨_, _, rfl, hbel, ?_⟩
      have e : k = zs.length := by omega
      subst e
      intro j hj
      refine ⟨w.heap.size, 0, rfl, ?_, ?_⟩
      · exact hown.lt w.heap.size rfl
      · rw [Nat.zero_add, hown.cellAt j (by omega)]
        exact filled_all zs j hj
end Go.Proofs.Ytglibemklnamdaa
