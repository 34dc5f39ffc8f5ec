/-
  The program's fields: may be read; bytes among others; numbers.
  The program's fields: numbers of digits.
  The program's fields: pieces of a text; what stands ahead of a point, and behind it.
  The program's fields: digits ahead of a point, and behind it.
  The program's fields: numbers, hex digits.
-/
import Derived.Test.YtlcmjedbdopglaaGreatDoorFldA
import Derived.Test.YtlcmjedbdopglaaGreatDoorShelf
import Derived.StillTailTactics
import Derived.Shelf.Abstract
import Derived.Deep.LoopGhost
import Derived.Deep.QuietTactic
import Derived.BigQuiet
import Derived.KernelRfl
import Derived.Lib.CutLaws
namespace Go.Proofs.YtlcmjedbdopglaaGreatDoor
open Go.RowKit
set_option linter.unusedVariables false

/- The program's fields: may be read; bytes among others; numbers. -/
theorem empty_of (s : ByteArray) (h : s.size = 0) : s = ⟨#[]⟩ := by
  obtain ⟨d⟩ := s
  have : d = #[] := Array.eq_empty_of_size_eq_zero h
  rw [this]
theorem is_empty (s : ByteArray) : s.toList.isEmpty = decide (s.size = 0) := by
  rw [Lib.toList_data, Bool.eq_iff_iff, List.isEmpty_iff_length_eq_zero, Array.length_toList, decide_eq_true_eq]
  exact Iff.rfl
/-- Bytes that stand in a text, each with what it is worth there. -/
structure Among (t : ByteArray) (p : Nat → Bool) (v : Nat → Nat) : Prop where
  yes : ∀ b, b < 256 → p b = true → Lib.indexByte t.data.toList b.toUInt8 = (v b : Nat)
  no : ∀ b, b < 256 → p b = false → Lib.indexByte t.data.toList b.toUInt8 = -1
theorem among_of (t : ByteArray) (p : Nat → Bool) (v : Nat → Nat) (h : (List.range 256).all (fun b => Lib.indexByte t.data.toList b.toUInt8 == (if p b then (v b : Int) else -1)) = true) : Among t p v := by
  rw [List.all_eq_true] at h
  refine ⟨fun b hb hp => ?_, fun b hb hp => ?_⟩
  · have := h b (List.mem_range.2 hb)
    rw [hp] at this
    simpa using this
  · have := h b (List.mem_range.2 hb)
    rw [hp] at this
    simpa using this
theorem among_dec : Among ⟨#[48, 49, 50, 51, 52, 53, 54, 55, 56, 57]⟩ isDig (fun b => b - 48) := among_of _ _ _ (by kernel_rfl)
theorem among_hex : Among ⟨#[48, 49, 50, 51, 52, 53, 54, 55, 56, 57, 65, 66, 67, 68, 69, 70]⟩ isHex hexv := among_of _ _ _ (by kernel_rfl)
theorem among_zero : Among ⟨#[48]⟩ (fun b => b == 48) (fun _ => 0) := among_of _ _ _ (by kernel_rfl)

theorem fld_read (s : ByteArray) (w : World) (hs : s.size ≤ 1000) : Calls Tryz.prog 130 #[.string s] w fun e w' => e = .returned (.int .i64 (readE (nat s) : Nat)) ∧ w = w' := by
  have hl := nat_length s
  unfold readE
  rw [hl]
  clear hl
  by_cases h0 : s.size = 0
  · rw [if_pos h0]
    have h0' := empty_of s h0
    subst h0'
    go_enter Tryz.func130, Tryz.ntmps130
    go_wp2_with fail
    go_ret
    exact ⟨rfl, rfl⟩
  · rw [if_neg h0]
    have h0' : s.toList.isEmpty = false := by rw [is_empty]; simpa using h0
    by_cases h1 : 20 < s.size
    · rw [if_pos h1]
      have h1' : (20 : Int) < s.size := by omega
      go_enter Tryz.func130, Tryz.ntmps130
      go_wp2_with fail
      go_ret
      exact ⟨rfl, rfl⟩
    · rw [if_neg h1]
      have h1' : ¬ (20 : Int) < s.size := by omega
      go_enter Tryz.func130, Tryz.ntmps130
      go_wp2_with fail
      go_ret
      exact ⟨rfl, rfl⟩

theorem boolInt (b : Nat) (hb : b < 256) : ((b : Nat) : Int).toNat.toUInt8 = b.toUInt8 := by rw [Int.toNat_natCast]
set_option maxHeartbeats 1000000 in
theorem fld_all (s t : ByteArray) (p : Nat → Bool) (v : Nat → Nat) (a : Addr) (w : World) (hs : s.size ≤ 1000) (ha : w.cell? a = some (.string t)) (D : Among t p v) :
    Calls Tryz.prog 144 #[.string s, .pointer (some a)] w fun e w' => e = .returned (.bool ((nat s).all p)) ∧ Grew w w' := by
  have hl := nat_length s
  have HA := fun j h w => Lib.hid (str_at s j h w)
  have HB := fun j => Lib.hid (nat_lt s j)
  have HALL := Lib.hid (all_iff (S := nat s) (p := p))
  have HL := Lib.hid hl
  have HD := Lib.hid D
  have HC : Hid (∀ w', Grew w w' → w'.cell? a = some (.string t)) := fun w' g => (g.cell (World.block_lt_of_cell? _ _ ha)).trans ha
  have HX := fun (c : Int) w' => Lib.hid (Tryz.strings_IndexByte t c w')
  clear hl D ha
  go_enter Tryz.func144, Tryz.ntmps144
  go_wp2_with fail
  go_loopw [4, 7] (fun x i wr => ∃ j : Nat, j ≤ s.size ∧ i = .int .i64 (j : Nat) ∧ Hid (∀ q : Nat, q < j → p (wd (nat s) q) = true) ∧ Hid (Grew w wr)) (fun _ i _ => s.size - (intOf i).toNat)
  case atStart => exact ⟨0, by omega, rfl, fun q hq => by omega, Grew.refl _⟩
  case round =>
    obtain ⟨j, hj, rfl, hM, hg⟩ := hrel
    by_cases hlt : j < s.size
    · have y := fun w => (HA j hlt w).out
      have m0 : (j : Int) < s.size := by omega
      have m1 : (0 : Int) ≤ j := by omega
      have hc := HC.out _ hg.out
      have hx : ∀ w', Hid _ := fun w' => HX (wd (nat s) j : Nat) w'
      have x256 := (HB j).out
      obtain ⟨c, hc256⟩ : ∃ c, wd (nat s) j = c := ⟨_, rfl⟩
      have hS : Hid (p c = true → ∀ q : Nat, q < j + 1 → p (wd (nat s) q) = true) := fun h q hq => by
        rcases Nat.lt_or_ge q j with h2 | h2
        · exact hM.out q h2
        · obtain rfl : q = j := by omega
          rw [hc256]; exact h
      rw [hc256] at y x256
      cases hd : p c
      · have H : ∀ w', Hid (Calls Tryz.prog 137 #[.string t, .int .u8 (c : Nat)] w' fun e w'' => e = .returned (.int .i64 (-1)) ∧ w'' = w') := fun w' => by
          have := (HX (c : Nat) w').out
          rwa [boolInt c x256, HD.out.no c x256 hd] at this
        have HF : Hid ((nat s).all p = false) := by
          show _ = _
          rw [← Bool.not_eq_true, HALL.out]
          exact fun h => by have := h j (by rw [HL.out]; exact hlt); rw [hc256, hd] at this; cases this
        clear hM hS HX HD HALL hd hc256 HA HB HC
        go_wp2_with fail
        go_quiet (first | (go_at_call 137; exact Calls.quiet_of_same ((H _).out.mono fun _ _ h => ⟨h.1, h.2⟩)))
        go_wp2_with fail
        go_ret
        exact ⟨by rw [HF.out]; rfl, (hg.out.drewN _)⟩
      · have H : ∀ w', Hid (Calls Tryz.prog 137 #[.string t, .int .u8 (c : Nat)] w' fun e w'' => e = .returned (.int .i64 (v c : Nat)) ∧ w'' = w') := fun w' => by
          have := (HX (c : Nat) w').out
          rwa [boolInt c x256, HD.out.yes c x256 hd] at this
        have hS2 := Lib.hid (hS.out hd)
        have hv : ¬ ((v c : Nat) : Int) < 0 := by omega
        clear hM hS HX HD HALL hd hc256 HA HB HC
        go_wp2_with fail
        go_quiet (first | (go_at_call 137; exact Calls.quiet_of_same ((H _).out.mono fun _ _ h => ⟨h.1, h.2⟩)))
        go_wp2_with fail
        go_roundw
        case rel => exact ⟨j + 1, by omega, by simp, hS2, hg.out.drewN _⟩
        case measure => simp [intOf]; omega
    · obtain rfl : j = s.size := by omega
      have HF : Hid ((nat s).all p = true) := by show _ = _; rw [HALL.out]; exact fun i hi => hM.out i (by rw [HL.out] at hi; exact hi)
      clear hM HX HD HALL HA HB HC
      go_wp2_with fail
      go_ret
      exact ⟨by rw [HF.out]; rfl, hg.out⟩
/- The program's fields: numbers of digits. -/
/-- The number of the first k bytes, by what each is worth. -/
def numV (v : Nat → Nat) (B : Nat) (S : List Nat) : Nat → Nat
  | 0 => 0
  | k + 1 => numV v B S k * B + v (wd S k)
theorem numV_mono (v : Nat → Nat) (B : Nat) (S : List Nat) (hB : 1 ≤ B) : ∀ k m, k ≤ m → numV v B S k ≤ numV v B S m := by
  intro k m h
  induction m with
  | zero => have : k = 0 := by omega
            subst this; exact Nat.le_refl _
  | succ m ih =>
    rcases Nat.lt_or_ge k (m + 1) with h1 | h1
    · have := ih (by omega)
      rw [numV]
      have h2 : numV v B S m * 1 ≤ numV v B S m * B := Nat.mul_le_mul_left _ hB
      omega
    · have : k = m + 1 := by omega
      subst this; exact Nat.le_refl _
theorem numV_dec (S : List Nat) : ∀ k, numV (fun b => b - 48) 10 S k = numOf S 0 k
  | 0 => rfl
  | k + 1 => by rw [numV, numOf, numV_dec S k, Nat.zero_add]
theorem numV_hex (S : List Nat) : ∀ k, numV hexv 16 S k = hexTo S k
  | 0 => rfl
  | k + 1 => by rw [numV, hexTo, numV_hex S k]
/-- What a number is told as. -/
def told (n : Nat) : Value := .tuple #[.int .i64 (if n ≤ 9223372036854775807 then (n : Int) else 0), .bool (decide (n ≤ 9223372036854775807))]
set_option maxHeartbeats 1000000 in
theorem fld_number (s t : ByteArray) (p : Nat → Bool) (v : Nat → Nat) (w : World) (hs : s.size ≤ 1000) (hp : (nat s).all p = true) (D : Among t p v) (hB : 2 ≤ t.size ∧ t.size ≤ 100) (hv : ∀ b, p b = true → v b < t.size) :
    Calls Tryz.prog 135 #[.string s, .string t] w fun e w' => e = .returned (told (numV v t.size (nat s) s.size)) ∧ w = w' := by
  have hl := nat_length s
  have HA := fun j h w => Lib.hid (str_at s j h w)
  have HP : Hid (∀ j, j < s.size → wd (nat s) j < 256 ∧ v (wd (nat s) j) < t.size ∧ ∀ w', Calls Tryz.prog 137 #[.string t, .int .u8 (wd (nat s) j : Nat)] w' fun e w'' => e = .returned (.int .i64 (v (wd (nat s) j) : Nat)) ∧ w'' = w') := fun j hj => by
    have h1 := all_iff.1 hp j (by rw [hl]; exact hj)
    have h2 := nat_lt s j
    refine ⟨h2, hv _ h1, fun w' => ?_⟩
    have := Tryz.strings_IndexByte t (wd (nat s) j : Nat) w'
    rwa [boolInt _ h2, D.yes _ h2 h1] at this
  have HM := fun k m h => Lib.hid (numV_mono v t.size (nat s) (by omega) k m h)
  have HS := fun k => Lib.hid (show numV v t.size (nat s) (k + 1) = numV v t.size (nat s) k * t.size + v (wd (nat s) k) from rfl)
  clear hl hp D hv
  obtain ⟨B, hBB⟩ : ∃ B, t.size = B := ⟨_, rfl⟩
  rw [hBB] at HP HM HS hB
  have HBB := Lib.hid hBB
  have b0 : ¬ (B : Int) = 0 := by omega
  have b1 : ¬ (B : Int) = -1 := by omega
  go_enter Tryz.func135, Tryz.ntmps135
  go_wp2_with fail
  go_loop [7, 8, 9, 14] (fun n x d i => ∃ j : Nat, j ≤ s.size ∧ i = .int .i64 (j : Nat) ∧ n = .int .i64 (numV v B (nat s) j : Nat) ∧ numV v B (nat s) j ≤ 9223372036854775807) (fun _ _ _ i => s.size - (intOf i).toNat)
  case atStart => exact ⟨0, by omega, rfl, rfl, by simp [numV]⟩
  case round =>
    obtain ⟨j, hj, rfl, rfl, hn⟩ := hrel
    by_cases hlt : j < s.size
    · have y := fun w => (HA j hlt w).out
      obtain ⟨x256, hvB, H'⟩ := HP.out j hlt
      have H := fun w' => Lib.hid (H' w')
      have m0 : (j : Int) < s.size := by omega
      have m1 : (0 : Int) ≤ j := by omega
      have hst := HS j
      have hmo := HM (j + 1) s.size (by omega)
      generalize wd (nat s) j = c at *
      generalize v c = d at *
      generalize numV v B (nat s) j = n at *
      have d1 : IntKind.i64.wrap (9223372036854775807 - (d : Int)) = ((9223372036854775807 - d : Nat) : Int) := by rw [IntWalk.i64_in _ (by omega)]; omega
      have d2 : Int.tdiv ((9223372036854775807 - d : Nat) : Int) (B : Int) = (((9223372036854775807 - d) / B : Nat) : Int) := rfl
      have d6 : ((9223372036854775807 - d : Nat) : Int) / (B : Int) = (((9223372036854775807 - d) / B : Nat) : Int) := rfl
      have hq : (9223372036854775807 - d) / B ≤ 9223372036854775807 - d := Nat.div_le_self _ _
      have hiff : (9223372036854775807 - d) / B < n ↔ 9223372036854775807 - d < n * B := Nat.div_lt_iff_lt_mul (by omega)
      have HI := Lib.hid hiff
      generalize (9223372036854775807 - d) / B = q at *
      have d3 : IntKind.i64.wrap (q : Int) = q := IntWalk.i64_in _ (by omega)
      clear H' HA HP HM HS hiff
      by_cases hov : q < n
      · have o1 : (q : Int) < n := by omega
        have hbig : Hid (¬ numV v B (nat s) s.size ≤ 9223372036854775807) := by
          show ¬ _
          have h1 := HI.out.1 hov
          have h2 := hst.out
          have h3 := hmo.out
          omega
        clear HI hst hmo
        go_wp2_with (first | (go_at_call 137; refine (H _).out.mono ?_; rintro e w1 ⟨rfl, rfl⟩))
        go_ret2
        exact ⟨by rw [HBB.out]; unfold told; rw [if_neg hbig.out, decide_eq_false hbig.out]; rfl, rfl⟩
      · have o1 : ¬ (q : Int) < n := by omega
        have hle : n * B + d ≤ 9223372036854775807 := by
          have h1 := mt HI.out.2 hov
          omega
        obtain ⟨m, hm⟩ : ∃ m, n * B = m := ⟨_, rfl⟩
        have d4 : IntKind.i64.wrap ((n : Int) * (B : Int)) = (m : Nat) := by rw [← hm, IntWalk.i64_in _ (by rw [← Int.natCast_mul, hm]; omega)]; simp
        have d5 : IntKind.i64.wrap ((m : Int) + (d : Int)) = ((m + d : Nat) : Int) := by rw [IntWalk.i64_in _ (by omega)]; simp
        have hst2 := Lib.hid (show numV v B (nat s) (j + 1) = m + d by rw [hst.out, hm])
        clear HI hst hmo
        go_wp2_with (first | (go_at_call 137; refine (H _).out.mono ?_; rintro e w1 ⟨rfl, rfl⟩))
        go_round
        case rel => exact ⟨j + 1, by omega, by simp, by rw [hst2.out]; simp, by rw [hst2.out]; omega⟩
        case measure => simp [intOf]; omega
    · obtain rfl : j = s.size := by omega
      have HN := Lib.hid hn
      clear HA HP HM HS hn
      go_wp2_with fail
      go_ret2
      exact ⟨by unfold told; rw [if_pos HN.out, decide_eq_true HN.out]; rfl, rfl⟩
/- The program's fields: pieces of a text; what stands ahead of a point, and behind it. -/
theorem place_le (b : Nat) : ∀ L : List Nat, placeOf b L ≤ L.length
  | [] => Nat.le_refl _
  | x :: L => by
    rw [placeOf]
    split
    · exact Nat.zero_le _
    · rw [List.length_cons]; exact Nat.succ_le_succ (place_le b L)
theorem index_place (c : UInt8) : ∀ l : List UInt8, Lib.indexByte l c = if placeOf c.toNat (l.map UInt8.toNat) < l.length then ((placeOf c.toNat (l.map UInt8.toNat) : Nat) : Int) else -1
  | [] => rfl
  | b :: l => by
    have ih := index_place c l
    rw [List.map_cons, placeOf, List.length_cons]
    by_cases h : b = c
    · subst h; simp [Lib.indexByte]
    · have h2 : ¬ b.toNat = c.toNat := fun e => h (UInt8.toNat_inj.1 e)
      have h3 : (b == c) = false := by simpa using h
      rw [if_neg h2]
      by_cases h4 : placeOf c.toNat (l.map UInt8.toNat) < l.length
      · rw [if_pos h4] at ih
        generalize placeOf c.toNat (l.map UInt8.toNat) = P at *
        have h5 : ((P : Int) == -1) = false := by simp
        rw [if_pos (by omega), Lib.indexByte, h3, ih, h5]
        simp
      · rw [if_neg h4] at ih
        rw [if_neg (by omega), Lib.indexByte, h3, ih]
        simp
theorem point_place : ∀ S : List Nat, pointOf S = placeOf 46 S
  | [] => rfl
  | x :: S => by
    rw [placeOf, ← point_place S]
    unfold pointOf
    by_cases h : x = 46
    · subst h; simp
    · simp [h]

theorem fld_allOf (t : ByteArray) (w : World) :
    Calls Tryz.prog 133 #[.string t] w fun e w' => ∃ a, e = .returned (.func (.func 144) #[] #[.pointer (some a)]) ∧ w'.cell? a = some (.string t) ∧ Grew w w' := by
  go_enter Tryz.func133, Tryz.ntmps133
  go_wp2_with fail
  go_ret
  exact ⟨_, rfl, by simp [go_sem], (Grew.refl w).alloc _⟩

/-- What is parted at a byte's first place. -/
def parted (s : ByteArray) (p : Nat) : Value := .tuple #[.string (s.extract 0 p), .string (s.extract (p + 1) s.size), .bool (decide (p < s.size))]
set_option maxHeartbeats 1000000 in
theorem fld_scut (s : ByteArray) (c : UInt8) (p : Nat) (w : World) (hs : s.size ≤ 1000) (hp : placeOf c.toNat (nat s) = p) :
    Calls Tryz.prog 147 #[.string s, .string ⟨#[c]⟩] w fun e w' => e = .returned (parted s p) ∧ Grew w w' := by
  have hl := nat_length s
  have hle := place_le c.toNat (nat s)
  have hI := index_place c s.data.toList
  have HX := fun w' => Tryz.stringslite_Index_one s c w'
  have e1 : s.data.toList.map UInt8.toNat = nat s := rfl
  have e2 : s.data.toList.length = s.size := Array.length_toList ..
  rw [e1, e2, hp] at hI
  rw [hp, hl] at hle
  rw [hI] at HX
  clear hI e1 e2 hp hl
  by_cases hlt : p < s.size
  · rw [if_pos hlt] at HX
    have H := fun w' => Lib.hid (HX w')
    have p1 : (0 : Int) ≤ p := by omega
    have p2 : (p : Int) ≤ s.size := by omega
    have p3 : IntKind.i64.wrap ((p : Int) + 1) = ((p + 1 : Nat) : Int) := by rw [IntWalk.i64_in _ (by omega)]; simp
    have p4 : ((p + 1 : Nat) : Int) ≤ s.size := by omega
    have p5 : (0 : Int) ≤ ((p + 1 : Nat) : Int) := by omega
    have p6 : (((⟨#[c]⟩ : ByteArray).size : Nat) : Int) = 1 := rfl
    have HF : Hid (decide (p < s.size) = true) := decide_eq_true hlt
    clear HX
    obtain ⟨q, hq⟩ : ∃ q, p + 1 = q := ⟨_, rfl⟩
    rw [hq] at p3 p4 p5
    have HQ := Lib.hid hq
    clear hq
    go_enter Tryz.func147, Tryz.ntmps147
    go_wp2_with (first | (go_at_call 109; refine (H _).out.mono ?_; rintro e w1 ⟨rfl, rfl⟩))
    go_quiet (fail)
    go_wp2_with fail
    go_ret3
    exact ⟨by unfold parted; rw [HF.out, HQ.out]; rfl, (Grew.refl _).drewN _⟩
  · rw [if_neg hlt] at HX
    have H := fun w' => Lib.hid (HX w')
    have HF : Hid (parted s p = .tuple #[.string s, .string ⟨#[]⟩, .bool false]) := by
      obtain rfl : p = s.size := by omega
      show _ = _
      unfold parted
      rw [extract_all, extract_none s _ (by omega), decide_eq_false (by omega)]
    clear HX
    go_enter Tryz.func147, Tryz.ntmps147
    go_wp2_with (first | (go_at_call 109; refine (H _).out.mono ?_; rintro e w1 ⟨rfl, rfl⟩))
    go_ret3
    exact ⟨by rw [HF.out]; rfl, Grew.refl _⟩
theorem fld_cut (s : ByteArray) (c : UInt8) (p : Nat) (w : World) (hs : s.size ≤ 1000) (hp : placeOf c.toNat (nat s) = p) :
    Calls Tryz.prog 142 #[.string s, .string ⟨#[c]⟩] w fun e w' => e = .returned (parted s p) ∧ Grew w w' := by
  have H := fun w => Lib.hid (fld_scut s c p w hs hp)
  unfold parted at H
  have HF : Hid (parted s p = .tuple #[.string (s.extract 0 p), .string (s.extract (p + 1) s.size), .bool (decide (p < s.size))]) := rfl
  generalize s.extract 0 p = A at *
  generalize s.extract (p + 1) s.size = B at *
  generalize decide (p < s.size) = D at *
  go_enter Tryz.func142, Tryz.ntmps142
  go_wp2_with (first | (go_at_call 147; refine (H _).out.mono ?_; rintro e w1 ⟨rfl, g1⟩))
  go_ret3
  exact ⟨by rw [HF.out]; rfl, g1⟩
/- The program's fields: digits ahead of a point, and behind it. -/
/-- What stands ahead of a point, and behind it, if both are digits. -/
def atPt (s : ByteArray) (p : Nat) : Value :=
  if digs (nat s) 0 p = false ∨ (p < s.size ∧ digs (nat s) (p + 1) s.size = false) then .tuple #[.string ⟨#[]⟩, .string ⟨#[]⟩, .bool false]
  else .tuple #[.string (s.extract 0 p), .string (s.extract (p + 1) s.size), .bool true]
theorem all_cut (S : List Nat) (p : Nat) (hp : p ≤ S.length) : digs S 0 p = (decide (0 < p) && ((S.take p).drop 0).all isDig) := by
  unfold digs; rw [List.drop_zero, Nat.sub_zero, List.drop_zero]
theorem all_cut2 (S : List Nat) (a : Nat) : digs S a S.length = (decide (a < S.length) && ((S.take S.length).drop a).all isDig) := by
  unfold digs; rw [List.take_of_length_le (by rw [List.length_drop]; exact Nat.le_refl _), List.take_of_length_le (Nat.le_refl _)]
theorem fld_digs (s : ByteArray) (a : Addr) (w : World) (hs : s.size ≤ 1000) (ha : w.cell? a = some (.string ⟨#[48, 49, 50, 51, 52, 53, 54, 55, 56, 57]⟩)) :
    Calls Tryz.prog 144 #[.string s, .pointer (some a)] w fun e w' => e = .returned (.bool ((nat s).all isDig)) ∧ Grew w w' :=
  fld_all s _ isDig (fun b => b - 48) a w hs ha among_dec
theorem kept_cell {w w' : World} {a : Addr} {v : Value} (h : w.cell? a = some v) (g : Grew w w') : w'.cell? a = some v := (g.cell (World.block_lt_of_cell? _ _ h)).trans h
set_option maxHeartbeats 1000000 in
theorem fld_atPoint (s : ByteArray) (p : Nat) (w : World) (hs : s.size ≤ 1000) (hp : pointOf (nat s) = p) :
    Calls Tryz.prog 131 #[.string s] w fun e w' => e = .returned (atPt s p) ∧ Grew w w' := by
  have hl := nat_length s
  have hle : p ≤ s.size := by rw [← hp, ← hl]; exact pointOf_le _
  have HC := fun w => fld_cut s 46 p w hs (by rw [← hp, point_place]; rfl)
  unfold parted at HC
  have HO := fun w => Lib.hid (fld_allOf ⟨#[48, 49, 50, 51, 52, 53, 54, 55, 56, 57]⟩ w)
  have HA := fun a w h => fld_digs (s.extract 0 p) a w (by rw [size_extract]; omega) h
  have HB := fun a w h => fld_digs (s.extract (p + 1) s.size) a w (by rw [size_extract]; omega) h
  have ea := is_empty (s.extract 0 p)
  have eb := is_empty (s.extract (p + 1) s.size)
  rw [size_extract] at ea eb
  rw [nat_extract] at HA HB
  have da := all_cut (nat s) p (by omega)
  have db := all_cut2 (nat s) (p + 1)
  rw [hl] at db
  have HR : Hid (atPt s p = if digs (nat s) 0 p = false ∨ (p < s.size ∧ digs (nat s) (p + 1) s.size = false) then .tuple #[.string ⟨#[]⟩, .string ⟨#[]⟩, .bool false]
    else .tuple #[.string (s.extract 0 p), .string (s.extract (p + 1) s.size), .bool true]) := rfl
  rw [da, db] at HR
  clear da db hp hl
  generalize s.extract 0 p = A at *
  generalize s.extract (p + 1) s.size = B at *
  have hy0 : ¬ p < s.size → (((nat s).take s.size).drop (p + 1)).all isDig = true := fun h => by rw [List.drop_eq_nil_of_le (by rw [List.length_take]; omega)]; rfl
  generalize (((nat s).take p).drop 0).all isDig = x at *
  generalize (((nat s).take s.size).drop (p + 1)).all isDig = y at *
  replace HC := fun w => Lib.hid (HC w)
  replace HA := fun a w h => Lib.hid (HA a w h)
  replace HB := fun a w h => Lib.hid (HB a w h)
  have G := Lib.hid (Grew.refl w)
  by_cases c0 : p = 0
  · have ea2 : A.toList.isEmpty = true := by rw [ea, decide_eq_true (by omega)]
    have HI : Hid (atPt s p = .tuple #[.string ⟨#[]⟩, .string ⟨#[]⟩, .bool false]) := by show _ = _; rw [HR.out, if_pos (.inl (by simp [c0]))]
    clear ea eb HR c0 HA HB
    generalize decide (p < s.size) = D at *
    go_enter Tryz.func131, Tryz.ntmps131
    go_wp2_with (first | (go_at_call 142; refine (HC _).out.mono ?_; rintro e w1 ⟨rfl, g1⟩; replace G := Lib.hid (G.out.trans g1); clear g1) | (go_at_call 133; refine (HO _).out.mono ?_; rintro e w1 ⟨q, rfl, hq, g1⟩; replace G := Lib.hid (G.out.trans g1); have HQ := Lib.hid hq; clear hq g1))
    go_ret3
    exact ⟨by rw [HI.out]; rfl, G.out⟩
  · have ea2 : A.toList.isEmpty = false := by rw [ea, decide_eq_false (by omega)]
    by_cases c1 : p < s.size ∧ s.size ≤ p + 1
    · have eb2 : B.toList.isEmpty = true := by rw [eb, decide_eq_true (by omega)]
      have HI : Hid (atPt s p = .tuple #[.string ⟨#[]⟩, .string ⟨#[]⟩, .bool false]) := by show _ = _; rw [HR.out, if_pos (.inr ⟨c1.1, by rw [decide_eq_false (by omega)]; rfl⟩)]
      rw [decide_eq_true c1.1] at HC
      clear ea eb HR c0 c1 HA HB
      go_enter Tryz.func131, Tryz.ntmps131
      go_wp2_with (first | (go_at_call 142; refine (HC _).out.mono ?_; rintro e w1 ⟨rfl, g1⟩; replace G := Lib.hid (G.out.trans g1); clear g1) | (go_at_call 133; refine (HO _).out.mono ?_; rintro e w1 ⟨q, rfl, hq, g1⟩; replace G := Lib.hid (G.out.trans g1); have HQ := Lib.hid hq; clear hq g1))
      go_ret3
      exact ⟨by rw [HI.out]; rfl, G.out⟩
    · have ed : decide (p < s.size) = true → B.toList.isEmpty = false := fun h => by have := of_decide_eq_true h; rw [eb, decide_eq_false (by omega)]
      cases x
      · have HI : Hid (atPt s p = .tuple #[.string ⟨#[]⟩, .string ⟨#[]⟩, .bool false]) := by show _ = _; rw [HR.out, if_pos (.inl (by simp))]
        clear ea eb HR c0 c1 HB
        cases hD : decide (p < s.size)
        · rw [hD] at HC
          clear hD ed
          go_enter Tryz.func131, Tryz.ntmps131
          go_wp2_with (first | (go_at_call 142; refine (HC _).out.mono ?_; rintro e w1 ⟨rfl, g1⟩; replace G := Lib.hid (G.out.trans g1); clear g1) | (go_at_call 133; refine (HO _).out.mono ?_; rintro e w1 ⟨q, rfl, hq, g1⟩; replace G := Lib.hid (G.out.trans g1); have HQ := Lib.hid hq; clear hq g1) | (go_at_call 144; (with_reducible refine (HA q _ HQ.out).out.mono ?_); rintro e w1 ⟨rfl, g1⟩; replace G := Lib.hid (G.out.trans g1); replace HQ := Lib.hid (kept_cell HQ.out g1); clear g1))
          go_ret3
          exact ⟨by rw [HI.out]; rfl, G.out⟩
        · have eb2 := ed hD
          rw [hD] at HC
          clear hD ed
          go_enter Tryz.func131, Tryz.ntmps131
          go_wp2_with (first | (go_at_call 142; refine (HC _).out.mono ?_; rintro e w1 ⟨rfl, g1⟩; replace G := Lib.hid (G.out.trans g1); clear g1) | (go_at_call 133; refine (HO _).out.mono ?_; rintro e w1 ⟨q, rfl, hq, g1⟩; replace G := Lib.hid (G.out.trans g1); have HQ := Lib.hid hq; clear hq g1) | (go_at_call 144; (with_reducible refine (HA q _ HQ.out).out.mono ?_); rintro e w1 ⟨rfl, g1⟩; replace G := Lib.hid (G.out.trans g1); replace HQ := Lib.hid (kept_cell HQ.out g1); clear g1))
          go_ret3
          exact ⟨by rw [HI.out]; rfl, G.out⟩
      · cases hy : y
        · have hlt : p < s.size := by
            rcases Nat.lt_or_ge p s.size with h | h
            · exact h
            · have := hy0 (by omega); rw [hy] at this; cases this
          have HI : Hid (atPt s p = .tuple #[.string ⟨#[]⟩, .string ⟨#[]⟩, .bool false]) := by show _ = _; rw [HR.out, if_pos (.inr ⟨hlt, by rw [hy]; simp⟩)]
          have hD := decide_eq_true hlt
          have eb2 := ed hD
          rw [hy] at HB
          rw [hD] at HC
          clear hD ed hy ea eb HR c0 c1 hy0 hlt
          go_enter Tryz.func131, Tryz.ntmps131
          go_wp2_with (first | (go_at_call 142; refine (HC _).out.mono ?_; rintro e w1 ⟨rfl, g1⟩; replace G := Lib.hid (G.out.trans g1); clear g1) | (go_at_call 133; refine (HO _).out.mono ?_; rintro e w1 ⟨q, rfl, hq, g1⟩; replace G := Lib.hid (G.out.trans g1); have HQ := Lib.hid hq; clear hq g1) | (go_at_call 144; first | ((with_reducible refine (HA q _ HQ.out).out.mono ?_); rintro e w1 ⟨rfl, g1⟩; replace G := Lib.hid (G.out.trans g1); replace HQ := Lib.hid (kept_cell HQ.out g1); clear g1) | ((with_reducible refine (HB q _ HQ.out).out.mono ?_); rintro e w1 ⟨rfl, g1⟩; replace G := Lib.hid (G.out.trans g1); replace HQ := Lib.hid (kept_cell HQ.out g1); clear g1)))
          go_ret3
          exact ⟨by rw [HI.out]; rfl, G.out⟩
        · have HI : Hid (atPt s p = .tuple #[.string A, .string B, .bool true]) := by show _ = _; rw [HR.out, if_neg (by rw [hy]; simp; omega)]
          rw [hy] at HB
          clear hy ea eb HR c0 c1
          cases hD : decide (p < s.size)
          · rw [hD] at HC
            clear hD ed
            go_enter Tryz.func131, Tryz.ntmps131
            go_wp2_with (first | (go_at_call 142; refine (HC _).out.mono ?_; rintro e w1 ⟨rfl, g1⟩; replace G := Lib.hid (G.out.trans g1); clear g1) | (go_at_call 133; refine (HO _).out.mono ?_; rintro e w1 ⟨q, rfl, hq, g1⟩; replace G := Lib.hid (G.out.trans g1); have HQ := Lib.hid hq; clear hq g1) | (go_at_call 144; first | ((with_reducible refine (HA q _ HQ.out).out.mono ?_); rintro e w1 ⟨rfl, g1⟩; replace G := Lib.hid (G.out.trans g1); replace HQ := Lib.hid (kept_cell HQ.out g1); clear g1) | ((with_reducible refine (HB q _ HQ.out).out.mono ?_); rintro e w1 ⟨rfl, g1⟩; replace G := Lib.hid (G.out.trans g1); replace HQ := Lib.hid (kept_cell HQ.out g1); clear g1)))
            go_ret3
            exact ⟨by rw [HI.out]; rfl, G.out⟩
          · have eb2 := ed hD
            rw [hD] at HC
            clear hD ed
            go_enter Tryz.func131, Tryz.ntmps131
            go_wp2_with (first | (go_at_call 142; refine (HC _).out.mono ?_; rintro e w1 ⟨rfl, g1⟩; replace G := Lib.hid (G.out.trans g1); clear g1) | (go_at_call 133; refine (HO _).out.mono ?_; rintro e w1 ⟨q, rfl, hq, g1⟩; replace G := Lib.hid (G.out.trans g1); have HQ := Lib.hid hq; clear hq g1) | (go_at_call 144; first | ((with_reducible refine (HA q _ HQ.out).out.mono ?_); rintro e w1 ⟨rfl, g1⟩; replace G := Lib.hid (G.out.trans g1); replace HQ := Lib.hid (kept_cell HQ.out g1); clear g1) | ((with_reducible refine (HB q _ HQ.out).out.mono ?_); rintro e w1 ⟨rfl, g1⟩; replace G := Lib.hid (G.out.trans g1); replace HQ := Lib.hid (kept_cell HQ.out g1); clear g1)))
            go_ret3
            exact ⟨by rw [HI.out]; rfl, G.out⟩
/- The program's fields: numbers, hex digits. -/
theorem fld_num_dec (s : ByteArray) (w : World) (hs : s.size ≤ 1000) (hp : (nat s).all isDig = true) :
    Calls Tryz.prog 135 #[.string s, .string ⟨#[48, 49, 50, 51, 52, 53, 54, 55, 56, 57]⟩] w fun e w' => e = .returned (told (numOf (nat s) 0 s.size)) ∧ w = w' := by
  have := fld_number s ⟨#[48, 49, 50, 51, 52, 53, 54, 55, 56, 57]⟩ isDig (fun b => b - 48) w hs hp among_dec (by decide) (fun b hb => by
    unfold isDig at hb
    simp at hb
    show b - 48 < 10
    omega)
  rw [show (⟨#[48, 49, 50, 51, 52, 53, 54, 55, 56, 57]⟩ : ByteArray).size = 10 from rfl, numV_dec] at this
  exact this
theorem fld_num_hex (s : ByteArray) (w : World) (hs : s.size ≤ 1000) (hp : (nat s).all isHex = true) :
    Calls Tryz.prog 135 #[.string s, .string ⟨#[48, 49, 50, 51, 52, 53, 54, 55, 56, 57, 65, 66, 67, 68, 69, 70]⟩] w fun e w' => e = .returned (told (hexTo (nat s) s.size)) ∧ w = w' := by
  have := fld_number s ⟨#[48, 49, 50, 51, 52, 53, 54, 55, 56, 57, 65, 66, 67, 68, 69, 70]⟩ isHex hexv w hs hp among_hex (by decide) (fun b hb => by
    unfold isHex at hb
    simp at hb
    show hexv b < 16
    unfold hexv
    split <;> omega)
  rw [show (⟨#[48, 49, 50, 51, 52, 53, 54, 55, 56, 57, 65, 66, 67, 68, 69, 70]⟩ : ByteArray).size = 16 from rfl, numV_hex] at this
  exact this
theorem fld_hexs (s : ByteArray) (a : Addr) (w : World) (hs : s.size ≤ 1000) (ha : w.cell? a = some (.string ⟨#[48, 49, 50, 51, 52, 53, 54, 55, 56, 57, 65, 66, 67, 68, 69, 70]⟩)) :
    Calls Tryz.prog 144 #[.string s, .pointer (some a)] w fun e w' => e = .returned (.bool ((nat s).all isHex)) ∧ Grew w w' :=
  fld_all s _ isHex hexv a w hs ha among_hex
theorem digs_whole (S : List Nat) (h : 0 < S.length) : digs S 0 S.length = S.all isDig := by
  unfold digs
  rw [decide_eq_true h, List.drop_zero, List.take_of_length_le (by omega), Bool.true_and]

set_option maxHeartbeats 1000000 in
theorem fld_Int (s : ByteArray) (least most : Int) (w : World) (hs : s.size ≤ 1000) (h1 : -9223372036854775808 ≤ least ∧ least ≤ 9223372036854775807) (h2 : -9223372036854775808 ≤ most ∧ most ≤ 9223372036854775807) :
    Calls Tryz.prog 115 #[.string s, .int .i64 least, .int .i64 most] w fun e w' => e = .returned (.tuple #[.int .i64 (intAns (nat s) least most).1, .int .i64 ((intAns (nat s) least most).2 : Nat)]) ∧ Grew w w' := by
  have hl := nat_length s
  have HR := fun w => Lib.hid (fld_read s w hs)
  have G := Lib.hid (Grew.refl w)
  by_cases hr : readE (nat s) = 0
  · have hz := readE_zero hr
    have hw := digs_whole (nat s) (by omega)
    have hI : Hid (intAns (nat s) least most = if digs (nat s) 0 s.size = false then (0, 5) else if (numOf (nat s) 0 s.size : Int) < least ∨ most < (numOf (nat s) 0 s.size : Int) then (0, 9) else ((numOf (nat s) 0 s.size : Int), 0)) := by show _ = _; unfold intAns; rw [if_neg (by omega), hl]
    rw [hl] at hw
    rw [hw] at hI
    rw [hr] at HR
    have HO := fun w => Lib.hid (fld_allOf ⟨#[48, 49, 50, 51, 52, 53, 54, 55, 56, 57]⟩ w)
    have HA := fun a w h => Lib.hid (fld_digs s a w hs h)
    have HN := fun w h => Lib.hid (fld_num_dec s w hs h)
    cases hd : (nat s).all isDig
    · have HI : Hid (intAns (nat s) least most = (0, 5)) := by show _ = _; rw [hI.out, if_pos hd]
      rw [hd] at HA
      clear hI hw hr hl HN hd
      go_enter Tryz.func115, Tryz.ntmps115
      go_wp2_with (first | (go_at_call 130; refine (HR _).out.mono ?_; rintro e w1 ⟨rfl, rfl⟩) | (go_at_call 133; refine (HO _).out.mono ?_; rintro e w1 ⟨q, rfl, hq, g1⟩; replace G := Lib.hid (G.out.trans g1); have HQ := Lib.hid hq; clear hq g1) | (go_at_call 144; (with_reducible refine (HA q _ HQ.out).out.mono ?_); rintro e w1 ⟨rfl, g1⟩; replace G := Lib.hid (G.out.trans g1); clear g1))
      go_ret2
      exact ⟨by rw [HI.out]; rfl, G.out⟩
    · have HI : Hid (intAns (nat s) least most = if (numOf (nat s) 0 s.size : Int) < least ∨ most < (numOf (nat s) 0 s.size : Int) then (0, 9) else ((numOf (nat s) 0 s.size : Int), 0)) := by show _ = _; rw [hI.out, hd, if_neg (by decide)]
      rw [hd] at HA
      have HN2 := fun w => Lib.hid (HN w hd).out
      unfold told at HN2
      generalize numOf (nat s) 0 s.size = n at *
      clear hI hw hr hl HN hd
      by_cases hn : n ≤ 9223372036854775807
      · rw [if_pos hn, decide_eq_true hn] at HN2
        by_cases c1 : (n : Int) < least
        · have HI2 : Hid (intAns (nat s) least most = (0, 9)) := by show _ = _; rw [HI.out, if_pos (.inl c1)]
          clear HI
          go_enter Tryz.func115, Tryz.ntmps115
          go_wp2_with (first | (go_at_call 130; refine (HR _).out.mono ?_; rintro e w1 ⟨rfl, rfl⟩) | (go_at_call 133; refine (HO _).out.mono ?_; rintro e w1 ⟨q, rfl, hq, g1⟩; replace G := Lib.hid (G.out.trans g1); have HQ := Lib.hid hq; clear hq g1) | (go_at_call 144; (with_reducible refine (HA q _ HQ.out).out.mono ?_); rintro e w1 ⟨rfl, g1⟩; replace G := Lib.hid (G.out.trans g1); clear g1) | (go_at_call 135; refine (HN2 _).out.mono ?_; rintro e w1 ⟨rfl, rfl⟩))
          go_ret2
          exact ⟨by rw [HI2.out]; rfl, G.out⟩
        · by_cases c2 : most < (n : Int)
          · have HI2 : Hid (intAns (nat s) least most = (0, 9)) := by show _ = _; rw [HI.out, if_pos (.inr c2)]
            clear HI
            go_enter Tryz.func115, Tryz.ntmps115
            go_wp2_with (first | (go_at_call 130; refine (HR _).out.mono ?_; rintro e w1 ⟨rfl, rfl⟩) | (go_at_call 133; refine (HO _).out.mono ?_; rintro e w1 ⟨q, rfl, hq, g1⟩; replace G := Lib.hid (G.out.trans g1); have HQ := Lib.hid hq; clear hq g1) | (go_at_call 144; (with_reducible refine (HA q _ HQ.out).out.mono ?_); rintro e w1 ⟨rfl, g1⟩; replace G := Lib.hid (G.out.trans g1); clear g1) | (go_at_call 135; refine (HN2 _).out.mono ?_; rintro e w1 ⟨rfl, rfl⟩))
            go_ret2
            exact ⟨by rw [HI2.out]; rfl, G.out⟩
          · have HI2 : Hid (intAns (nat s) least most = ((n : Int), 0)) := by show _ = _; rw [HI.out, if_neg (by omega)]
            clear HI
            go_enter Tryz.func115, Tryz.ntmps115
            go_wp2_with (first | (go_at_call 130; refine (HR _).out.mono ?_; rintro e w1 ⟨rfl, rfl⟩) | (go_at_call 133; refine (HO _).out.mono ?_; rintro e w1 ⟨q, rfl, hq, g1⟩; replace G := Lib.hid (G.out.trans g1); have HQ := Lib.hid hq; clear hq g1) | (go_at_call 144; (with_reducible refine (HA q _ HQ.out).out.mono ?_); rintro e w1 ⟨rfl, g1⟩; replace G := Lib.hid (G.out.trans g1); clear g1) | (go_at_call 135; refine (HN2 _).out.mono ?_; rintro e w1 ⟨rfl, rfl⟩))
            go_ret2
            exact ⟨by rw [HI2.out]; rfl, G.out⟩
      · rw [if_neg hn, decide_eq_false hn] at HN2
        have HI2 : Hid (intAns (nat s) least most = (0, 9)) := by show _ = _; rw [HI.out, if_pos (.inr (by omega))]
        clear HI
        go_enter Tryz.func115, Tryz.ntmps115
        go_wp2_with (first | (go_at_call 130; refine (HR _).out.mono ?_; rintro e w1 ⟨rfl, rfl⟩) | (go_at_call 133; refine (HO _).out.mono ?_; rintro e w1 ⟨q, rfl, hq, g1⟩; replace G := Lib.hid (G.out.trans g1); have HQ := Lib.hid hq; clear hq g1) | (go_at_call 144; (with_reducible refine (HA q _ HQ.out).out.mono ?_); rintro e w1 ⟨rfl, g1⟩; replace G := Lib.hid (G.out.trans g1); clear g1) | (go_at_call 135; refine (HN2 _).out.mono ?_; rintro e w1 ⟨rfl, rfl⟩))
        go_ret2
        exact ⟨by rw [HI2.out]; rfl, G.out⟩
  · have hI : Hid (intAns (nat s) least most = (0, readE (nat s))) := by show _ = _; unfold intAns; rw [if_pos hr]
    have hr9 := readE_le (nat s)
    have r0 : ¬ (readE (nat s) : Int) = 0 := by omega
    have r1 : ((readE (nat s) : Int) == 0) = false := by simpa using r0
    clear hl hr
    generalize readE (nat s) = r at *
    go_enter Tryz.func115, Tryz.ntmps115
    go_wp2_with (first | (go_at_call 130; refine (HR _).out.mono ?_; rintro e w1 ⟨rfl, rfl⟩))
    go_ret2
    exact ⟨by rw [hI.out]; rfl, Grew.refl _⟩

end Go.Proofs.YtlcmjedbdopglaaGreatDoor
