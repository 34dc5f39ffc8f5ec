/-
  The document's UBX messages: a value at a place; does a value fit; are messages the same?
-/
import Derived.Test.YtcdmbnbanopioaaUbrA
namespace Go.Proofs.Ytcdmbnbanopioaa
open Go.RowKit
set_option linter.unusedVariables false

theorem numLE_le (S : List Nat) (p k : Nat) (hB : ∀ i, wd S i < 256) (hk : k ≤ 4) : numLE S p k < 4294967296 :=
  Nat.lt_of_lt_of_le (numLE_lt S p hB k) (pow_le4 k hk)
theorem getZ_pos (S : List Nat) (p m : Nat) : getZ S p (m : Int) = (numLE S p m : Nat) := by
  unfold getZ
  rw [if_neg (by omega)]
  rfl
theorem getZ_neg (S : List Nat) (p m : Nat) (hm : 0 < m) : getZ S p (-(m : Int)) = if 256 ^ m / 2 ≤ numLE S p m then (numLE S p m : Int) - (256 ^ m : Nat) else (numLE S p m : Int) := by
  have e : (-(m : Int)).natAbs = m := by omega
  unfold getZ
  rw [e]
  by_cases h : 256 ^ m / 2 ≤ numLE S p m
  · rw [if_pos ⟨by omega, h⟩, if_pos h]
  · rw [if_neg (fun q => h q.2), if_neg h]
set_option maxRecDepth 100000 in
set_option maxHeartbeats 2000000 in
theorem ref12_Get (v : Value) (S : List Nat) (p m : Nat) (neg : Bool) (w : World) (hr : Row .u8 w v S) (hB : Bytes S) (hp : p + m ≤ S.length) (hm : 0 < m ∧ m ≤ 4) (hl : S.length ≤ 100000) :
    Calls Try.prog 48 #[v, .int .i64 (p : Nat), .int .i64 (if neg then -(m : Int) else (m : Int))] w fun e w' => e = .returned (.int .i64 (getZ S p (if neg then -(m : Int) else (m : Int)))) ∧ Grew w w' := by
  have HP := fun k hk w => Lib.hid (ref12_power k w hk)
  have HN := Lib.hid (fun k hk => numLE_le S p k hB hk)
  obtain ⟨A, c, rfl, hc, hrow⟩ := hr
  have HR := Lib.hid hrow
  have HB := Lib.hid hB
  clear hrow hB
  cases neg
  · simp only [Bool.false_eq_true, if_false]
    rw [getZ_pos]
    go_enter Try.func48, Try.ntmps48
    go_wp2_with fail
    go_loopg [8, 9] m (fun kx s t wr => ∃ i : Nat, i + kx = m ∧ s = .int .i64 (numLE S p i : Nat) ∧ t = .int .i64 i ∧ Hid (Grew w wr))
    case atStart => exact ⟨0, by omega, rfl, rfl, Lib.hid (Grew.refl _)⟩
    case round =>
      obtain ⟨i, hi, rfl, rfl, hg⟩ := hrel
      by_cases hlt : i < m
      · obtain ⟨b, o, rfl, hb, hcell⟩ := HR.out (by omega)
        have hx := (hg.out.cell (p := ⟨b, o + (p + i), none⟩) hb).trans (hcell (p + i) (by omega))
        have n1 := HN.out (i + 1) (by omega)
        have n2 := HB.out (p + i)
        have s1 : numLE S p (i + 1) = numLE S p i + wd S (p + i) * 256 ^ i := rfl
        have HPi := fun w => HP i (by omega) w
        have hq := pow_le4 i (by omega)
        have hs1 := Lib.hid s1
        rw [s1] at n1
        generalize numLE S p i = n at *
        generalize wd S (p + i) = x at *
        generalize 256 ^ i = q at *
        obtain ⟨y, hy⟩ : ∃ y, x * q = y := ⟨_, rfl⟩
        rw [hy] at n1
        have e0 : IntKind.i64.wrap ((p : Int) + (i : Int)) = ((p + i : Nat) : Int) := by rw [IntWalk.i64_in _ (by omega)]; omega
        have e1 : IntKind.i64.wrap ((x : Int) * (q : Int)) = (y : Nat) := by rw [← hy, ← Int.natCast_mul, hy]; exact IntWalk.i64_in _ (by omega)
        have e2 : IntKind.i64.wrap ((n : Int) + (y : Int)) = ((n + y : Nat) : Int) := by rw [IntWalk.i64_in _ (by omega)]; omega
        have b1 : (0 : Int) ≤ (p : Int) + i := by omega
        have b2 : (p : Int) + i < S.length := by omega
        have hyy := Lib.hid hy
        clear hy hcell s1
        go_wp2_with fail
        go_quiet (first | (go_at_call 56; exact Calls.quiet_of_same ((HPi _).out.mono fun _ _ h => ⟨h.1, h.2.symm⟩)))
        go_wp2_with fail
        go_roundg (m - (i + 1))
        case measure => omega
        case rel => exact ⟨i + 1, by omega, by rw [hs1.out, hyy.out]; simp, by go_num, Lib.hid (hg.out.drewN _)⟩
      · obtain rfl : i = m := by omega
        go_wp2_with fail
        go_ret
        exact ⟨rfl, hg.out⟩
  · simp only [if_true]
    have HZ := Lib.hid (getZ_neg S p m hm.1)
    have nm : -(m : Int) < 0 := by omega
    have nn : IntKind.i64.wrap (-(-(m : Int))) = (m : Int) := by rw [IntWalk.i64_in _ (by omega)]; omega
    have nn2 : - -(m : Int) = (m : Int) := by omega
    have HPm := fun w => HP m (by omega) w
    go_enter Try.func48, Try.ntmps48
    go_wp2_with fail
    go_loopg [8, 9] m (fun kx s t wr => ∃ i : Nat, i + kx = m ∧ s = .int .i64 (numLE S p i : Nat) ∧ t = .int .i64 i ∧ Hid (Grew w wr))
    case atStart => exact ⟨0, by omega, rfl, rfl, Lib.hid (Grew.refl _)⟩
    case round =>
      obtain ⟨i, hi, rfl, rfl, hg⟩ := hrel
      by_cases hlt : i < m
      · obtain ⟨b, o, rfl, hb, hcell⟩ := HR.out (by omega)
        have hx := (hg.out.cell (p := ⟨b, o + (p + i), none⟩) hb).trans (hcell (p + i) (by omega))
        have n1 := HN.out (i + 1) (by omega)
        have n2 := HB.out (p + i)
        have s1 : numLE S p (i + 1) = numLE S p i + wd S (p + i) * 256 ^ i := rfl
        have HPi := fun w => HP i (by omega) w
        have hq := pow_le4 i (by omega)
        have hs1 := Lib.hid s1
        rw [s1] at n1
        generalize numLE S p i = n at *
        generalize wd S (p + i) = x at *
        generalize 256 ^ i = q at *
        obtain ⟨y, hy⟩ : ∃ y, x * q = y := ⟨_, rfl⟩
        rw [hy] at n1
        have e0 : IntKind.i64.wrap ((p : Int) + (i : Int)) = ((p + i : Nat) : Int) := by rw [IntWalk.i64_in _ (by omega)]; omega
        have e1 : IntKind.i64.wrap ((x : Int) * (q : Int)) = (y : Nat) := by rw [← hy, ← Int.natCast_mul, hy]; exact IntWalk.i64_in _ (by omega)
        have e2 : IntKind.i64.wrap ((n : Int) + (y : Int)) = ((n + y : Nat) : Int) := by rw [IntWalk.i64_in _ (by omega)]; omega
        have b1 : (0 : Int) ≤ (p : Int) + i := by omega
        have b2 : (p : Int) + i < S.length := by omega
        have hyy := Lib.hid hy
        clear hy hcell s1
        go_wp2_with fail
        go_quiet (first | (go_at_call 56; exact Calls.quiet_of_same ((HPi _).out.mono fun _ _ h => ⟨h.1, h.2.symm⟩)))
        go_wp2_with fail
        go_roundg (m - (i + 1))
        case measure => omega
        case rel => exact ⟨i + 1, by omega, by rw [hs1.out, hyy.out]; simp, by go_num, Lib.hid (hg.out.drewN _)⟩
      · obtain rfl : i = m := by omega
        have n1 := HN.out i (by omega)
        have hq := pow_le4 i (by omega)
        by_cases hle : 256 ^ i / 2 ≤ numLE S p i
        · have hle' := Lib.hid hle
          generalize numLE S p i = n at *
          generalize 256 ^ i = q at *
          have t1 : (q : Int).tdiv 2 = ((q / 2 : Nat) : Int) := rfl
          have t2 : ((q / 2 : Nat) : Int) ≤ (n : Int) := by omega
          have t3 : (q : Int) / 2 ≤ (n : Int) := by omega
          have t4 : IntKind.i64.wrap ((n : Int) - (q : Int)) = (n : Int) - (q : Int) := IntWalk.i64_in _ (by omega)
          go_wp2_with (first | (go_at_call 56; refine (HPm _).out.mono ?_; rintro e w1 ⟨rfl, rfl⟩))
          go_ret
          exact ⟨by rw [HZ.out, if_pos hle'.out]; rfl, hg.out⟩
        · have hle' := Lib.hid hle
          generalize numLE S p i = n at *
          generalize 256 ^ i = q at *
          have t1 : (q : Int).tdiv 2 = ((q / 2 : Nat) : Int) := rfl
          have t2 : ¬ ((q / 2 : Nat) : Int) ≤ (n : Int) := by omega
          have t3 : ¬ (q : Int) / 2 ≤ (n : Int) := by omega
          go_wp2_with (first | (go_at_call 56; refine (HPm _).out.mono ?_; rintro e w1 ⟨rfl, rfl⟩))
          go_ret
          exact ⟨by rw [HZ.out, if_neg hle'.out]; rfl, hg.out⟩

end Go.Proofs.Ytcdmbnbanopioaa
