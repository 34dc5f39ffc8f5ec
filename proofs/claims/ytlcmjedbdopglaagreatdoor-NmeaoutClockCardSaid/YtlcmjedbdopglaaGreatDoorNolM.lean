/-
  What a second's sentence tells, as plain lists: its fields, its time, its date.
-/
import Derived.Test.YtlcmjedbdopglaaGreatDoorNmpD
import Derived.Test.YtlcmjedbdopglaaGreatDoorNopM
namespace Go.Proofs.YtlcmjedbdopglaaGreatDoor
open Go.RowKit
set_option linter.unusedVariables false

theorem parts_app : ∀ (l r : List UInt8), (∀ x ∈ l, x ≠ 44) → partsL (l ++ 44 :: r) = l :: partsL r
  | [], r, _ => by rw [List.nil_append, partsL, if_pos rfl]
  | x :: l, r, h => by
    rw [List.cons_append, partsL, if_neg (h x (by simp)), parts_app l r (fun y hy => h y (by simp [hy]))]
    rfl
theorem parts_end : ∀ (l : List UInt8), (∀ x ∈ l, x ≠ 44) → partsL l = [l]
  | [], _ => rfl
  | x :: l, h => by
    rw [partsL, if_neg (h x (by simp)), parts_end l (fun y hy => h y (by simp [hy]))]
    rfl
theorem dig_no (i : Nat) (h : i < 10) : UInt8.ofNat (48 + i) ≠ 44 ∧ (UInt8.ofNat (48 + i)).toNat = 48 + i := by
  have : ∀ i : Fin 10, UInt8.ofNat (48 + i.val) ≠ 44 ∧ (UInt8.ofNat (48 + i.val)).toNat = 48 + i.val := by decide
  exact this ⟨i, h⟩
theorem digL_no : ∀ (k n : Nat), ∀ x ∈ digL k n, x ≠ 44
  | 0, _, x, h => by cases h
  | k + 1, n, x, h => by
    rw [digL, List.mem_append, List.mem_singleton] at h
    rcases h with h | rfl
    · exact digL_no k _ x h
    · exact (dig_no (n % 10) (by omega)).1
theorem digL_two (n : Nat) : (digL 2 n).map UInt8.toNat = [48 + n / 10 % 10, 48 + n % 10] := by
  simp only [digL, List.nil_append, List.cons_append, List.map_cons, List.map_nil]
  rw [(dig_no (n / 10 % 10) (by omega)).2, (dig_no (n % 10) (by omega)).2]
theorem bytesOf_dig (k n : Nat) : bytesOf (digB k n) = digL k n := rfl
theorem fields_of (s : ByteArray) : fieldsOf s = (partsL (bytesOf s)).map (·.map UInt8.toNat) := by
  rw [← partsB_bytes, List.map_map]
  rfl
theorem clock_bytes (Y m D H I S : Nat) : bytesOf (clockB Y m D H I S) = [71, 80, 90, 68, 65] ++ 44 :: ((digL 2 H ++ digL 2 I ++ digL 2 S) ++ 44 :: (digL 2 D ++ 44 :: (digL 2 m ++ 44 :: (digL 4 Y ++ 44 :: ([48, 48] ++ 44 :: [48, 48]))))) := by
  unfold clockB
  simp only [bytesOf_append, bytesOf_dig]
  rw [show bytesOf (⟨#[71, 80, 90, 68, 65, 44]⟩ : ByteArray) = [71, 80, 90, 68, 65, 44] from rfl, show bytesOf (⟨#[44]⟩ : ByteArray) = [44] from rfl, show bytesOf (⟨#[44, 48, 48, 44, 48, 48]⟩ : ByteArray) = [44, 48, 48, 44, 48, 48] from rfl]
  simp
theorem clock_fields (Y m D H I S : Nat) : fieldsOf (clockB Y m D H I S) = [[71, 80, 90, 68, 65], (digL 2 H ++ digL 2 I ++ digL 2 S).map UInt8.toNat, (digL 2 D).map UInt8.toNat, (digL 2 m).map UInt8.toNat, (digL 4 Y).map UInt8.toNat, [48, 48], [48, 48]] := by
  have h6 : ∀ x ∈ digL 2 H ++ digL 2 I ++ digL 2 S, x ≠ 44 := fun x hx => by
    rcases List.mem_append.1 hx with hx | hx
    · rcases List.mem_append.1 hx with hx | hx
      · exact digL_no _ _ x hx
      · exact digL_no _ _ x hx
    · exact digL_no _ _ x hx
  rw [fields_of, clock_bytes, parts_app _ _ (by decide), parts_app _ _ h6, parts_app _ _ (digL_no 2 D), parts_app _ _ (digL_no 2 m), parts_app _ _ (digL_no 4 Y), parts_app _ _ (by decide), parts_end _ (by decide)]
  rfl
theorem int_day (D : Nat) (h : 1 ≤ D ∧ D ≤ 31) : intAns ((digL 2 D).map UInt8.toNat) 1 31 = (((D : Nat) : Int), 0) := by
  have : ∀ D : Fin 32, 1 ≤ D.val → intAns ((digL 2 D.val).map UInt8.toNat) 1 31 = (((D.val : Nat) : Int), 0) := by decide +kernel
  exact this ⟨D, by omega⟩ h.1
theorem int_month (D : Nat) (h : 1 ≤ D ∧ D ≤ 12) : intAns ((digL 2 D).map UInt8.toNat) 1 12 = (((D : Nat) : Int), 0) := by
  have : ∀ D : Fin 13, 1 ≤ D.val → intAns ((digL 2 D.val).map UInt8.toNat) 1 12 = (((D.val : Nat) : Int), 0) := by decide +kernel
  exact this ⟨D, by omega⟩ h.1
theorem int_year (Y : Nat) (h : 1980 ≤ Y ∧ Y ≤ 2199) : intAns ((digL 4 Y).map UInt8.toNat) 1980 2199 = (((Y : Nat) : Int), 0) := by
  have : ∀ D : Fin 220, intAns ((digL 4 (1980 + D.val)).map UInt8.toNat) 1980 2199 = (((1980 + D.val : Nat) : Int), 0) := by decide +kernel
  have := this ⟨Y - 1980, by omega⟩
  simp only [show 1980 + (Y - 1980) = Y by omega] at this
  exact this
theorem clock_six (a b c d e f : Nat) (ha : a < 10) (hb : b < 10) (hc : c < 10) (hd : d < 10) (he : e < 10) (hf : f < 10) (h1 : 10 * a + b ≤ 23) (h2 : 10 * c + d ≤ 59) (h3 : 10 * e + f ≤ 60) :
    clockOf [48 + a, 48 + b, 48 + c, 48 + d, 48 + e, 48 + f] = ((10 * a + b, 10 * c + d, 10 * e + f, true), 0) := by
  have g : ∀ x, x < 10 → ((48 + x != 46) = true) ∧ isDig (48 + x) = true := fun x hx => by
    have : ∀ x : Fin 10, ((48 + x.val != 46) = true) ∧ isDig (48 + x.val) = true := by decide
    exact this ⟨x, hx⟩
  have p : pointOf [48 + a, 48 + b, 48 + c, 48 + d, 48 + e, 48 + f] = 6 := by
    unfold pointOf
    rw [List.takeWhile_cons, if_pos (g a ha).1, List.takeWhile_cons, if_pos (g b hb).1, List.takeWhile_cons, if_pos (g c hc).1, List.takeWhile_cons, if_pos (g d hd).1, List.takeWhile_cons, if_pos (g e he).1, List.takeWhile_cons, if_pos (g f hf).1]
    rfl
  have q : digs [48 + a, 48 + b, 48 + c, 48 + d, 48 + e, 48 + f] 0 6 = true := by
    show (decide (0 < 6) && (isDig (48 + a) && (isDig (48 + b) && (isDig (48 + c) && (isDig (48 + d) && (isDig (48 + e) && (isDig (48 + f) && true))))))) = true
    rw [(g a ha).2, (g b hb).2, (g c hc).2, (g d hd).2, (g e he).2, (g f hf).2]
    rfl
  have t0 : twoOf [48 + a, 48 + b, 48 + c, 48 + d, 48 + e, 48 + f] 0 = 10 * a + b := by show 10 * (48 + a - 48) + (48 + b - 48) = _; omega
  have t2 : twoOf [48 + a, 48 + b, 48 + c, 48 + d, 48 + e, 48 + f] 2 = 10 * c + d := by show 10 * (48 + c - 48) + (48 + d - 48) = _; omega
  have t4 : twoOf [48 + a, 48 + b, 48 + c, 48 + d, 48 + e, 48 + f] 4 = 10 * e + f := by show 10 * (48 + e - 48) + (48 + f - 48) = _; omega
  unfold clockOf
  rw [if_neg (show ¬ readE [48 + a, 48 + b, 48 + c, 48 + d, 48 + e, 48 + f] ≠ 0 from fun h => h rfl), p, q, if_neg (by rintro (h | h | ⟨h, _⟩); exact h rfl; cases h; exact absurd h (by simp)), t0, t2, t4, if_neg (by omega)]
  rfl
theorem clock_time (H I S : Nat) (hh : H < 24) (hi : I < 60) (hs : S < 60) : clockOf ((digL 2 H ++ digL 2 I ++ digL 2 S).map UInt8.toNat) = ((H, I, S, true), 0) := by
  rw [List.map_append, List.map_append, digL_two, digL_two, digL_two]
  show clockOf [48 + H / 10 % 10, 48 + H % 10, 48 + I / 10 % 10, 48 + I % 10, 48 + S / 10 % 10, 48 + S % 10] = _
  rw [clock_six _ _ _ _ _ _ (by omega) (by omega) (by omega) (by omega) (by omega) (by omega) (by omega) (by omega) (by omega)]
  congr 2
  · omega
  · congr 1
    · omega
    · congr 1
      omega
theorem clock_none : parseOf noneB = ({ kind := 5 }, 0) := by kernel_rfl
theorem fix_zda (f0 f1 f2 f3 f4 f5 f6 : List Nat) (hk : kindOfN f0 = 5) {H I S D m Y : Nat} (h1 : clockOf f1 = ((H, I, S, true), 0)) (h2 : intAns f2 1 31 = (((D : Nat) : Int), 0)) (h3 : intAns f3 1 12 = (((m : Nat) : Int), 0)) (h4 : intAns f4 1980 2199 = (((Y : Nat) : Int), 0)) (hl : f4.length = 4) :
    fixOf [f0, f1, f2, f3, f4, f5, f6] = ({ kind := 5, valid := true, hasTime := true, hasDate := true, time := (H, I, S, true), day := (D : Nat), month := (m : Nat), year := (Y : Nat) }, 0) := by
  have e : readOf (fun j => [f0, f1, f2, f3, f4, f5, f6].getD j []) 5 6 = ({ kind := 5, valid := true, hasTime := true, hasDate := true, time := (H, I, S, true), day := (D : Nat), month := (m : Nat), year := (Y : Nat) }, false) := by
    show zdaOf (fun j => [f0, f1, f2, f3, f4, f5, f6].getD j []) ({ kind := 5 }, false) = _
    simp [zdaOf, sTime, nOf, nBad, nHas, h1, h2, h3, h4, hl, badE]
  unfold fixOf
  rw [show [f0, f1, f2, f3, f4, f5, f6].getD 0 [] = f0 from rfl, hk, show [f0, f1, f2, f3, f4, f5, f6].length - 1 = 6 from rfl, e]
  rfl
/-- A second's sentence tells it. -/
theorem clock_told (Y m D H I S : Nat) (hY : 1980 ≤ Y ∧ Y ≤ 2199) (hm : 1 ≤ m ∧ m ≤ 12) (hD : 1 ≤ D ∧ D ≤ 31) (hh : H < 24) (hi : I < 60) (hs : S < 60) :
    parseOf (clockB Y m D H I S) = ({ kind := 5, valid := true, hasTime := true, hasDate := true, time := (H, I, S, true), day := (D : Nat), month := (m : Nat), year := (Y : Nat) }, 0) := by
  unfold parseOf
  rw [clock_fields]
  exact fix_zda _ _ _ _ _ _ _ (by decide) (clock_time H I S hh hi hs) (int_day D hD) (int_month m hm) (int_year Y hY) (by rw [List.length_map, digL_length])
end Go.Proofs.YtlcmjedbdopglaaGreatDoor
