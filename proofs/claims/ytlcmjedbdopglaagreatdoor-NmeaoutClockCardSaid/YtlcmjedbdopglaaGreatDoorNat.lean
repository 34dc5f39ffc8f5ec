/-
  A text's bytes as numbers.
-/
import Derived.Test.YtlcmjedbdopglaaGreatDoorRefA
namespace Go.Proofs.YtlcmjedbdopglaaGreatDoor
open Go.RowKit
set_option linter.unusedVariables false

/-- A text's bytes as numbers. -/
def nat (s : ByteArray) : List Nat := s.data.toList.map UInt8.toNat
theorem nat_length (s : ByteArray) : (nat s).length = s.size := by unfold nat; rw [List.length_map, Array.length_toList]; rfl
theorem nat_lt (s : ByteArray) (i : Nat) : wd (nat s) i < 256 := by
  unfold wd nat
  rw [List.getD_eq_getElem?_getD, List.getElem?_map]
  cases s.data.toList[i]? with
  | none => simp
  | some x => simpa using x.toNat_lt
theorem nat_wd (s : ByteArray) (i : Nat) (h : i < s.size) : (s[i]'h).toNat = wd (nat s) i := by
  have h2 : i < s.data.size := h
  unfold wd nat
  rw [List.getD_eq_getElem?_getD, List.getElem?_map, Array.getElem?_toList, Array.getElem?_eq_getElem h2]
  rfl
theorem nat_ext {s t : ByteArray} (h : nat s = nat t) : s = t := by
  unfold nat at h
  have h2 : s.data.toList = t.data.toList := (List.map_inj_right (fun a b hab => UInt8.toNat_inj.1 hab)).1 h
  obtain ⟨a⟩ := s
  obtain ⟨b⟩ := t
  have : a = b := Array.toList_inj.1 h2
  rw [this]
theorem nat_extract (s : ByteArray) (a b : Nat) : nat (s.extract a b) = ((nat s).take b).drop a := by
  unfold nat
  rw [ByteArray.data_extract, Array.toList_extract, List.extract_eq_take_drop, List.map_take, List.map_drop, List.drop_take]
theorem nat_append (s t : ByteArray) : nat (s ++ t) = nat s ++ nat t := by
  unfold nat
  rw [ByteArray.data_append, Array.toList_append, List.map_append]
theorem nat_mk (l : List UInt8) : nat ⟨l.toArray⟩ = l.map UInt8.toNat := rfl
theorem nat_nil : nat ⟨#[]⟩ = [] := rfl
theorem size_extract (s : ByteArray) (a b : Nat) : (s.extract a b).size = min b s.size - a := by
  rw [← nat_length, nat_extract, List.length_drop, List.length_take, nat_length]
theorem extract_all (s : ByteArray) : s.extract 0 s.size = s := nat_ext (by rw [nat_extract, List.drop_zero, List.take_of_length_le (by rw [nat_length]; exact Nat.le_refl _)])
theorem extract_none (s : ByteArray) (a : Nat) (h : s.size ≤ a) : s.extract a s.size = ⟨#[]⟩ := nat_ext (by rw [nat_extract, nat_nil, List.drop_eq_nil_of_le (by rw [List.length_take, nat_length]; omega)])
end Go.Proofs.YtlcmjedbdopglaaGreatDoor
