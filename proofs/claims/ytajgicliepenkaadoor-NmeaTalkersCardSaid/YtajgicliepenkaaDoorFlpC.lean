/-
  The program's fields: pieces of a text; what stands ahead of a point, and behind it.
-/
import Derived.Test.YtajgicliepenkaaDoorFlpB
import Derived.Lib.CutLaws
namespace Go.Proofs.YtajgicliepenkaaDoor
open Go.RowKit
set_option linter.unusedVariables false

theorem nat_ext {s t : ByteArray} (h : nat s = nat t) : s = t := by
  unfold nat at h
  have h2 : s.data.toList = t.data.toList := (List.map_inj_right (fun a b hab => UInt8.toNat_inj.1 hab)).1 h
  obtain ⟨a⟩ := s
  obtain ⟨b⟩ := t
  have : a = b := Array.toList_inj.1 h2
  rw [this]
theorem nat_extract (s : ByteArray) (a b : Nat) : nat (s.extract a b) = ((nat s).take b).drop a := by
  unfold nat
  rw [ByteArray.data_extract, Array.toList_extract, List.extract_eq_take_drop, List.map_take, List.map_drop, List.drop_take]
theorem nat_append (s t : ByteArray) : nat (s ++ t) = nat s ++ nat t := by
  unfold nat
  rw [ByteArray.data_append, Array.toList_append, List.map_append]
theorem nat_mk (l : List UInt8) : nat ⟨l.toArray⟩ = l.map UInt8.toNat := rfl
theorem nat_nil : nat ⟨#[]⟩ = [] := rfl
theorem size_extract (s : ByteArray) (a b : Nat) : (s.extract a b).size = min b s.size - a := by
  rw [← nat_length, nat_extract, List.length_drop, List.length_take, nat_length]
theorem extract_all (s : ByteArray) : s.extract 0 s.size = s := nat_ext (by rw [nat_extract, List.drop_zero, List.take_of_length_le (by rw [nat_length]; exact Nat.le_refl _)])
theorem extract_none (s : ByteArray) (a : Nat) (h : s.size ≤ a) : s.extract a s.size = ⟨#[]⟩ := nat_ext (by rw [nat_extract, nat_nil, List.drop_eq_nil_of_le (by rw [List.length_take, nat_length]; omega)])
theorem place_le (b : Nat) : ∀ L : List Nat, placeOf b L ≤ L.length
  | [] => Nat.le_refl _
  | x :: L => by
    rw [placeOf]
    split
    · exact Nat.zero_le _
    · rw [List.length_cons]; exact Nat.succ_le_succ (place_le b L)
theorem index_place (c : UInt8) : ∀ l : List UInt8, Lib.indexByte l c = if placeOf c.toNat (l.map UInt8.toNat) < l.length then ((placeOf c.toNat (l.map UInt8.toNat) : Nat) : Int) else -1
  | [] => rfl
  | b :: l => by
    have ih := index_place c l
    rw [List.map_cons, placeOf, List.length_cons]
    by_cases h : b = c
    · subst h; simp [Lib.indexByte]
    · have h2 : ¬ b.toNat = c.toNat := fun e => h (UInt8.toNat_inj.1 e)
      have h3 : (b == c) = false := by simpa using h
      rw [if_neg h2]
      by_cases h4 : placeOf c.toNat (l.map UInt8.toNat) < l.length
      · rw [if_pos h4] at ih
        generalize placeOf c.toNat (l.map UInt8.toNat) = P at *
        have h5 : ((P : Int) == -1) = false := by simp
        rw [if_pos (by omega), Lib.indexByte, h3, ih, h5]
        simp
      · rw [if_neg h4] at ih
        rw [if_neg (by omega), Lib.indexByte, h3, ih]
        simp
theorem point_place : ∀ S : List Nat, pointOf S = placeOf 46 S
  | [] => rfl
  | x :: S => by
    rw [placeOf, ← point_place S]
    unfold pointOf
    by_cases h : x = 46
    · subst h; simp
    · simp [h]

theorem fld_allOf (t : ByteArray) (w : World) :
    Calls Tryd.prog 66 #[.string t] w fun e w' => ∃ a, e = .returned (.func (.func 75) #[] #[.pointer (some a)]) ∧ w'.cell? a = some (.string t) ∧ Grew w w' := by
  go_enter Tryd.func66, Tryd.ntmps66
  go_wp2_with fail
  go_ret
  exact ⟨_, rfl, by simp [go_sem], (Grew.refl w).alloc _⟩

/-- What is parted at a byte's first place. -/
def parted (s : ByteArray) (p : Nat) : Value := .tuple #[.string (s.extract 0 p), .string (s.extract (p + 1) s.size), .bool (decide (p < s.size))]
set_option maxHeartbeats 1000000 in
theorem fld_scut (s : ByteArray) (c : UInt8) (p : Nat) (w : World) (hs : s.size ≤ 1000) (hp : placeOf c.toNat (nat s) = p) :
    Calls Tryd.prog 78 #[.string s, .string ⟨#[c]⟩] w fun e w' => e = .returned (parted s p) ∧ Grew w w' := by
  have hl := nat_length s
  have hle := place_le c.toNat (nat s)
  have hI := index_place c s.data.toList
  have HX := fun w' => Tryd.stringslite_Index_one s c w'
  have e1 : s.data.toList.map UInt8.toNat = nat s := rfl
  have e2 : s.data.toList.length = s.size := Array.length_toList ..
  rw [e1, e2, hp] at hI
  rw [hp, hl] at hle
  rw [hI] at HX
  clear hI e1 e2 hp hl
  by_cases hlt : p < s.size
  · rw [if_pos hlt] at HX
    have H := fun w' => Lib.hid (HX w')
    have p1 : (0 : Int) ≤ p := by omega
    have p2 : (p : Int) ≤ s.size := by omega
    have p3 : IntKind.i64.wrap ((p : Int) + 1) = ((p + 1 : Nat) : Int) := by rw [IntWalk.i64_in _ (by omega)]; simp
    have p4 : ((p + 1 : Nat) : Int) ≤ s.size := by omega
    have p5 : (0 : Int) ≤ ((p + 1 : Nat) : Int) := by omega
    have p6 : (((⟨#[c]⟩ : ByteArray).size : Nat) : Int) = 1 := rfl
    have HF : Hid (decide (p < s.size) = true) := decide_eq_true hlt
    clear HX
    obtain ⟨q, hq⟩ : ∃ q, p + 1 = q := ⟨_, rfl⟩
    rw [hq] at p3 p4 p5
    have HQ := Lib.hid hq
    clear hq
    go_enter Tryd.func78, Tryd.ntmps78
    go_wp2_with (first | (go_at_call 49; refine (H _).out.mono ?_; rintro e w1 ⟨rfl, rfl⟩))
    go_quiet (fail)
    go_wp2_with fail
    go_ret3
    exact ⟨by unfold parted; rw [HF.out, HQ.out]; rfl, (Grew.refl _).drewN _⟩
  · rw [if_neg hlt] at HX
    have H := fun w' => Lib.hid (HX w')
    have HF : Hid (parted s p = .tuple #[.string s, .string ⟨#[]⟩, .bool false]) := by
      obtain rfl : p = s.size := by omega
      show _ = _
      unfold parted
      rw [extract_all, extract_none s _ (by omega), decide_eq_false (by omega)]
    clear HX
    go_enter Tryd.func78, Tryd.ntmps78
    go_wp2_with (first | (go_at_call 49; refine (H _).out.mono ?_; rintro e w1 ⟨rfl, rfl⟩))
    go_ret3
    exact ⟨by rw [HF.out]; rfl, Grew.refl _⟩
theorem fld_cut (s : ByteArray) (c : UInt8) (p : Nat) (w : World) (hs : s.size ≤ 1000) (hp : placeOf c.toNat (nat s) = p) :
    Calls Tryd.prog 73 #[.string s, .string ⟨#[c]⟩] w fun e w' => e = .returned (parted s p) ∧ Grew w w' := by
  have H := fun w => Lib.hid (fld_scut s c p w hs hp)
  unfold parted at H
  have HF : Hid (parted s p = .tuple #[.string (s.extract 0 p), .string (s.extract (p + 1) s.size), .bool (decide (p < s.size))]) := rfl
  generalize s.extract 0 p = A at *
  generalize s.extract (p + 1) s.size = B at *
  generalize decide (p < s.size) = D at *
  go_enter Tryd.func73, Tryd.ntmps73
  go_wp2_with (first | (go_at_call 78; refine (H _).out.mono ?_; rintro e w1 ⟨rfl, g1⟩))
  go_ret3
  exact ⟨by rw [HF.out]; rfl, g1⟩
end Go.Proofs.YtajgicliepenkaaDoor
