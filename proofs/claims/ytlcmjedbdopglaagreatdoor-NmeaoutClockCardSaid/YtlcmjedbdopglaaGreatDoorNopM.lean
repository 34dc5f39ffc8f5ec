/-
  Sentences that are written, as plain texts: digits, letters, bodies. Nothing of the program.
-/
import Derived.Test.YtlcmjedbdopglaaGreatDoorNat
import Derived.Test.YtlcmjedbdopglaaGreatDoorFrmO
import Derived.Test.YtlcmjedbdopglaaGreatDoorCivU
import Derived.Lib.ItoaNum
import Derived.Lib.Repeat
namespace Go.Proofs.YtlcmjedbdopglaaGreatDoor
open Go.RowKit
set_option linter.unusedVariables false

/-- So many digits of a number, the greatest first. -/
def digL : Nat → Nat → List UInt8
  | 0, _ => []
  | k + 1, n => digL k (n / 10) ++ [UInt8.ofNat (48 + n % 10)]
theorem digL_length : ∀ k n, (digL k n).length = k
  | 0, _ => rfl
  | k + 1, n => by rw [digL, List.length_append, digL_length k]; rfl
theorem digL_cons : ∀ k n, digL (k + 1) n = UInt8.ofNat (48 + n / 10 ^ k % 10) :: digL k n
  | 0, n => by simp [digL]
  | k + 1, n => by
    rw [digL, digL_cons k (n / 10), digL, Nat.div_div_eq_div_mul, Nat.pow_succ, Nat.mul_comm (10 ^ k) 10]
    rfl
theorem digL_zero : ∀ k, digL k 0 = List.replicate k 48
  | 0 => rfl
  | k + 1 => by
    rw [digL, Nat.zero_div, digL_zero k, List.replicate_succ']
    rfl
theorem dec_len : ∀ k n, 1 ≤ k → n < 10 ^ k → (Lib.decDigits n).length ≤ k
  | 0, _, h, _ => absurd h (by decide)
  | k + 1, n, _, h => by
    rw [Lib.decDigits]
    split
    · simp
    · rename_i h10
      have hk : 1 ≤ k := by
        rcases Nat.eq_zero_or_pos k with rfl | q
        · simp at h; omega
        · exact q
      have := dec_len k (n / 10) hk (by rw [Nat.pow_succ] at h; omega)
      rw [List.length_append, List.length_singleton]
      omega
/-- A number's digits with noughts ahead are so many of its digits. -/
theorem dec_pad : ∀ k n, 1 ≤ k → n < 10 ^ k → List.replicate (k - (Lib.decDigits n).length) 48 ++ Lib.decDigits n = digL k n
  | 0, _, h, _ => absurd h (by decide)
  | k + 1, n, _, h => by
    by_cases h10 : n < 10
    · have e : Lib.decDigits n = [UInt8.ofNat (48 + n)] := by rw [Lib.decDigits, dif_pos h10]
      rw [e, digL, show n / 10 = 0 by omega, digL_zero, Nat.mod_eq_of_lt h10]
      rfl
    · have e : Lib.decDigits n = Lib.decDigits (n / 10) ++ [UInt8.ofNat (48 + n % 10)] := by rw [Lib.decDigits, dif_neg h10]
      have hk : 1 ≤ k := by
        rcases Nat.eq_zero_or_pos k with rfl | q
        · simp at h; omega
        · exact q
      rw [e, digL, ← dec_pad k (n / 10) hk (by rw [Nat.pow_succ] at h; omega), List.length_append, List.length_singleton, Nat.add_sub_add_right, List.append_assoc]
theorem rep_48 : ∀ c, Lib.repeatL [48] c = List.replicate c 48
  | 0 => rfl
  | c + 1 => by rw [Lib.repeatL, rep_48 c]; rfl
theorem itoa_nat (n : Nat) : Lib.itoa (n : Int) = Lib.decDigits n := by
  unfold Lib.itoa
  rw [if_neg (by omega)]
  rfl

/-- A number with noughts ahead, as the program lays it. -/
def padB (least n : Nat) : ByteArray := ⟨(Lib.repeatL [48] (least - (Lib.decDigits n).length)).toArray⟩ ++ ⟨(Lib.decDigits n).toArray⟩
/-- So many digits of a number as a text. -/
def digB (k n : Nat) : ByteArray := ⟨(digL k n).toArray⟩
theorem padB_eq (k n : Nat) (hk : 1 ≤ k) (hn : n < 10 ^ k) : padB k n = digB k n := by
  apply nat_ext
  unfold padB digB
  rw [nat_append, nat_mk, nat_mk, nat_mk, rep_48, ← List.map_append, dec_pad k n hk hn]
theorem padB_ten : padB 1 10 = ⟨#[49, 48]⟩ := by kernel_rfl
theorem digB_size (k n : Nat) : (digB k n).size = k := by rw [← nat_length]; unfold digB; rw [nat_mk, List.length_map, digL_length]
theorem padB_size (least n : Nat) (hl : least ≤ 4) (hn : n < 10000) : (padB least n).size ≤ 8 := by
  have := dec_len 4 n (by decide) hn
  rw [← nat_length]; unfold padB
  rw [nat_append, nat_mk, nat_mk, List.length_append, List.length_map, List.length_map, rep_48, List.length_replicate]
  omega
/-- Numbers side by side, as the program lays them. -/
def padTo (least : Nat) (ns : List Nat) : Nat → ByteArray
  | 0 => ⟨#[]⟩
  | j + 1 => padTo least ns j ++ padB least (wd ns j)
theorem padTo_size (least : Nat) (ns : List Nat) (hl : least ≤ 4) (hn : ∀ i, wd ns i < 10000) : ∀ j, (padTo least ns j).size ≤ 8 * j
  | 0 => Nat.le_refl _
  | j + 1 => by
    have h1 := padTo_size least ns hl hn j
    have h2 := padB_size least (wd ns j) hl (hn j)
    rw [padTo, ByteArray.size_append]
    omega
theorem cat_nil (s : ByteArray) : (⟨#[]⟩ : ByteArray) ++ s = s := nat_ext (by rw [nat_append]; rfl)
theorem padTo_one (least n : Nat) : padTo least [n] 1 = padB least n := by
  show (⟨#[]⟩ : ByteArray) ++ padB least n = _
  rw [cat_nil]
theorem padTo_three (least a b c : Nat) : padTo least [a, b, c] 3 = padB least a ++ padB least b ++ padB least c := by
  show (⟨#[]⟩ : ByteArray) ++ padB least a ++ padB least b ++ padB least c = _
  rw [cat_nil]

/-- A kind's letters, and its number in a SiRF receiver's commands. -/
def kindText (k : Nat) : ByteArray := if k = 1 then ⟨#[82, 77, 67]⟩ else if k = 2 then ⟨#[71, 71, 65]⟩ else if k = 3 then ⟨#[71, 76, 76]⟩ else if k = 4 then ⟨#[71, 83, 65]⟩ else if k = 5 then ⟨#[90, 68, 65]⟩ else if k = 6 then ⟨#[86, 84, 71]⟩ else if k = 7 then ⟨#[71, 83, 86]⟩ else ⟨#[]⟩
def kindNum (k : Nat) : Nat := if k = 1 then 4 else if k = 2 then 0 else if k = 3 then 1 else if k = 4 then 2 else if k = 5 then 8 else if k = 6 then 5 else if k = 7 then 3 else 0
/-- May a command be? -/
def cmdErr (k : Nat) (every : Int) : Nat := if k = 0 ∨ 7 < k then 7 else if every < 0 ∨ 10 < every then 2 else 0
/-- How often, in digits. -/
def everyB (e : Nat) : ByteArray := if e = 10 then ⟨#[49, 48]⟩ else digB 1 e
theorem every_pad (e : Nat) (h : e ≤ 10) : padB 1 e = everyB e := by
  unfold everyB
  split
  · subst_vars; exact padB_ten
  · exact padB_eq 1 e (by decide) (by omega)
theorem every_size (e : Nat) : (everyB e).size ≤ 2 := by
  unfold everyB
  split
  · exact Nat.le_refl _
  · rw [digB_size]; decide
/-- The bodies. -/
def rateB (L : ByteArray) (e : Nat) : ByteArray := (⟨#[80, 85, 66, 88, 44, 52, 48, 44]⟩ : ByteArray) ++ L ++ ⟨#[44, 48, 44]⟩ ++ everyB e ++ ⟨#[44, 48, 44, 48, 44, 48, 44, 48]⟩
def askB (n e : Nat) : ByteArray := (⟨#[80, 83, 82, 70, 49, 48, 51, 44]⟩ : ByteArray) ++ digB 2 n ++ ⟨#[44, 48, 44]⟩ ++ digB 2 e ++ ⟨#[44, 49]⟩
def noneB : ByteArray := ⟨#[71, 80, 90, 68, 65, 44, 44, 44, 44, 44, 48, 48, 44, 48, 48]⟩
def clockB (y m d h i s : Nat) : ByteArray := (⟨#[71, 80, 90, 68, 65, 44]⟩ : ByteArray) ++ (digB 2 h ++ digB 2 i ++ digB 2 s) ++ ⟨#[44]⟩ ++ digB 2 d ++ ⟨#[44]⟩ ++ digB 2 m ++ ⟨#[44]⟩ ++ digB 4 y ++ ⟨#[44, 48, 48, 44, 48, 48]⟩
theorem kindText_size (k : Nat) : (kindText k).size ≤ 3 := by
  unfold kindText
  (repeat' split) <;> decide
theorem kindNum_lt (k : Nat) : kindNum k < 10 := by
  unfold kindNum
  (repeat' split) <;> decide
theorem dig_three (h i s : Nat) (hh : h < 100) (hi : i < 100) (hs : s < 100) : digB 2 h ++ digB 2 i ++ digB 2 s = digB 6 (h * 10000 + i * 100 + s) := by
  apply nat_ext
  rw [nat_append, nat_append]
  unfold digB
  rw [nat_mk, nat_mk, nat_mk, nat_mk, ← List.map_append, ← List.map_append]
  congr 1
  simp only [digL, List.nil_append, List.cons_append]
  have e1 : (h * 10000 + i * 100 + s) % 10 = s % 10 := by omega
  have e2 : (h * 10000 + i * 100 + s) / 10 % 10 = s / 10 % 10 := by omega
  have e3 : (h * 10000 + i * 100 + s) / 10 / 10 % 10 = i % 10 := by omega
  have e4 : (h * 10000 + i * 100 + s) / 10 / 10 / 10 % 10 = i / 10 % 10 := by omega
  have e5 : (h * 10000 + i * 100 + s) / 10 / 10 / 10 / 10 % 10 = h % 10 := by omega
  have e6 : (h * 10000 + i * 100 + s) / 10 / 10 / 10 / 10 / 10 % 10 = h / 10 % 10 := by omega
  rw [e1, e2, e3, e4, e5, e6]

/-- What a body's sentence tells: the error, the bytes. -/
def sentErr (s : ByteArray) : Nat := if s.size = 0 then 4 else frameErr 1 (nat s)
def sentRow (s : ByteArray) : List Nat := if s.size = 0 then [] else frameBytes 1 (nat s)
def SaidT (er : Nat) (L : List Nat) (w : World) (e : Ending) (w' : World) : Prop :=
  ∃ v, e = .returned (.tuple #[v, .int .i64 (er : Nat)]) ∧ Row .u8 w' v L ∧ Grew w w'
theorem saidT_none (er : Nat) {w w' : World} (g : Grew w w') : SaidT er [] w (.returned (.tuple #[.slice none 0 0, .int .i64 (er : Nat)])) w' := ⟨_, rfl, Row.nil _ _, g⟩
theorem nat_bytes (s : ByteArray) : Bytes (nat s) := fun i => nat_lt s i

theorem rateB_size (L : ByteArray) (e : Nat) : (rateB L e).size = 8 + L.size + 3 + (everyB e).size + 8 := by
  unfold rateB
  rw [ByteArray.size_append, ByteArray.size_append, ByteArray.size_append, ByteArray.size_append]
  rfl
theorem askB_size (n e : Nat) : (askB n e).size = 17 := by
  unfold askB
  rw [ByteArray.size_append, ByteArray.size_append, ByteArray.size_append, ByteArray.size_append, digB_size, digB_size]
  rfl
theorem clockB_size (y m d h i s : Nat) : (clockB y m d h i s).size = 29 := by
  unfold clockB
  rw [ByteArray.size_append, ByteArray.size_append, ByteArray.size_append, ByteArray.size_append, ByteArray.size_append, ByteArray.size_append, ByteArray.size_append, ByteArray.size_append, ByteArray.size_append, ByteArray.size_append, digB_size, digB_size, digB_size, digB_size, digB_size, digB_size]
  rfl
end Go.Proofs.YtlcmjedbdopglaaGreatDoor
