/- Plain mathematics for the proof that RunAnswer answers as its model: the sum of bytes and numbers modulo 9973. -/
import Derived.RowKit
namespace Go.Proofs.Ytglibemklnamdaa

/-- One byte more. -/
def hb (h : Int) (b : UInt8) : Int := (31 * h + (b.toNat : Int)) % 9973
/-- One number more. -/
def hn (h : Int) (n : Int) : Int := (31 * h + n.tmod 9973 + 9973) % 9973
def hbs (h : Int) (l : List UInt8) : Int := l.foldl hb h
def hns (h : Int) (l : List Int) : Int := l.foldl hn h

theorem hb_bd (h : Int) (b : UInt8) : 0 ≤ hb h b ∧ hb h b < 9973 := by unfold hb; omega
theorem hn_bd (h n : Int) : 0 ≤ hn h n ∧ hn h n < 9973 := by unfold hn; omega
theorem hbs_bd (l : List UInt8) (h : Int) (h0 : 0 ≤ h) (h1 : h < 9973) : 0 ≤ hbs h l ∧ hbs h l < 9973 := by
  induction l generalizing h with
  | nil => exact ⟨h0, h1⟩
  | cons b l ih => exact ih (hb h b) (hb_bd h b).1 (hb_bd h b).2
theorem hns_bd (l : List Int) (h : Int) (h0 : 0 ≤ h) (h1 : h < 9973) : 0 ≤ hns h l ∧ hns h l < 9973 := by
  induction l generalizing h with
  | nil => exact ⟨h0, h1⟩
  | cons b l ih => exact ih (hn h b) (hn_bd h b).1 (hn_bd h b).2
theorem hbs_app (h : Int) (a b : List UInt8) : hbs h (a ++ b) = hbs (hbs h a) b := List.foldl_append
theorem hbs_snoc (h : Int) (l : List UInt8) (k : Nat) (hk : k < l.length) : hbs h (l.take (k + 1)) = hb (hbs h (l.take k)) l[k] := by
  rw [List.take_succ_eq_append_getElem hk, hbs_app]; rfl
theorem hns_snoc (h : Int) (l : List Int) (k : Nat) (hk : k < l.length) : hns h (l.take (k + 1)) = hn (hns h (l.take k)) l[k] := by
  rw [List.take_succ_eq_append_getElem hk]; simp only [hns, List.foldl_append, List.foldl_cons, List.foldl_nil]
/-- What is said of an ask. -/
def said (key name : List UInt8) (zs : List Int) : Int := hns (hbs (hbs 7 key) name) zs % 7 - 2
/-- A number modulo another one, not below nought, as the program reckons it, comes to the same. -/
theorem hn_eq (h n : Int) : (31 * h + (n.tmod 9973 + 9973).tmod 9973) % 9973 = hn h n := by
  unfold hn
  have h1 : -9973 < n.tmod 9973 := Int.lt_tmod_of_pos n (by decide)
  have h2 : n.tmod 9973 < 9973 := Int.tmod_lt_of_pos n (by decide)
  rw [Int.tmod_eq_emod_of_nonneg (by omega)]
  omega
theorem tmod_bd (n : Int) : -9973 < n.tmod 9973 ∧ n.tmod 9973 < 9973 := ⟨Int.lt_tmod_of_pos n (by decide), Int.tmod_lt_of_pos n (by decide)⟩
end Go.Proofs.Ytglibemklnamdaa
