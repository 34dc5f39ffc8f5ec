/-
  The document's sentences: a second's.
-/
import Derived.Test.YtlcmjedbdopglaaDoorNopS
namespace Go.Proofs.YtlcmjedbdopglaaDoor
open Go.RowKit
set_option linter.unusedVariables false

set_option maxHeartbeats 1000000 in
theorem ref11_Clock_bad (sec : Int) (valid : Bool) (w : World) (hv : -9223372036854775808 ≤ sec ∧ sec ≤ 9223372036854775807) (hb : sec < 0 ∨ 9467107200 ≤ sec) (s : ByteArray) :
    Calls Tryd.prog 12 #[.int .i64 sec, .bool valid] w (CmdT 9 s w) := by
  have HO := fun w => Lib.hid (ref03_Of_bad sec w hv hb)
  go_enter Tryd.func12, Tryd.ntmps12
  go_wp2_with (go_at_call 23; refine (HO _).out.mono ?_; rintro e w1 ⟨rfl, g1⟩)
  go_ret2
  exact cmdT_no (by decide) (g1.alloc _)
set_option maxHeartbeats 1000000 in
theorem ref11_Clock_old (sec : Int) (valid : Bool) (w : World) (Y m D H I S : Nat) (h : IsAt sec Y m D H I S) (hY : Y < 1980) (s : ByteArray) :
    Calls Tryd.prog 12 #[.int .i64 sec, .bool valid] w (CmdT 9 s w) := by
  have HO := fun w => ref03_Of_at sec Y m w h.hin
  rw [h.eq] at HO
  replace HO := fun w => Lib.hid (HO w)
  have c1 : (Y : Int) < 1980 := by omega
  clear h hY
  go_enter Tryd.func12, Tryd.ntmps12
  go_upto_region 2 with (go_at_call 23; refine (HO _).out.mono ?_; rintro e w1 ⟨rfl, g1⟩)
  obtain ⟨W, hW, g0, x⟩ := six_new w1 (.int .i64 (Y : Nat)) (.int .i64 (m : Nat)) (.int .i64 (D : Nat)) (.int .i64 (H : Nat)) (.int .i64 (I : Nat)) (.int .i64 (S : Nat)) 45
  rw [hW]
  clear hW
  obtain ⟨_, x0, x1, x2, x3, x4, x5⟩ := x
  go_wp2_with fail
  go_ret2
  exact cmdT_no (by decide) (g1.trans g0)
set_option maxRecDepth 100000 in
set_option maxHeartbeats 1000000 in
theorem ref11_Clock_no (sec : Int) (w : World) (Y m D H I S : Nat) (h : IsAt sec Y m D H I S) (hY : 1980 ≤ Y) :
    Calls Tryd.prog 12 #[.int .i64 sec, .bool false] w (CmdT 0 noneB w) := by
  have HO := fun w => ref03_Of_at sec Y m w h.hin
  rw [h.eq] at HO
  replace HO := fun w => Lib.hid (HO w)
  have HS := fun w => Lib.hid (ref11_Sentence noneB w (by decide))
  unfold noneB at HS
  have c1 : ¬ (Y : Int) < 1980 := by omega
  have c2 : ¬ (2199 : Int) < Y := by have := h.hy; omega
  rw [cmdT_ok]
  clear h hY
  go_enter Tryd.func12, Tryd.ntmps12
  go_upto_region 2 with (go_at_call 23; refine (HO _).out.mono ?_; rintro e w1 ⟨rfl, g1⟩)
  obtain ⟨W, hW, g0, x⟩ := six_new w1 (.int .i64 (Y : Nat)) (.int .i64 (m : Nat)) (.int .i64 (D : Nat)) (.int .i64 (H : Nat)) (.int .i64 (I : Nat)) (.int .i64 (S : Nat)) 45
  rw [hW]
  clear hW
  obtain ⟨_, x0, x1, x2, x3, x4, x5⟩ := x
  go_wp2_with (go_at_call 6; refine (HS _).out.mono ?_; rintro e w2 ⟨v, rfl, hrow, g2⟩)
  go_ret2
  exact ⟨v, rfl, hrow, (g1.trans g0).trans g2⟩

/-- What so many digits of a number are as a text (the first argument marks a walk's own). -/
def DigR (mark n k : Int) (s : ByteArray) : Prop := ∃ (a b : Nat), n = a ∧ k = b ∧ a < 1000000000 ∧ b ≤ 8 ∧ digB b a = s
theorem digits_r {mark n k : Int} {s : ByteArray} (V : World) (h : DigR mark n k s) : Calls Tryd.prog 19 #[.int .i64 n, .int .i64 k] V fun e w' => e = .returned (.string s) ∧ Grew V w' := by
  obtain ⟨a, b, rfl, rfl, h1, h2, rfl⟩ := h
  exact ref11_digits a b V h1 h2
set_option maxRecDepth 100000 in
set_option maxHeartbeats 4000000 in
theorem ref11_Clock_ok (sec : Int) (w : World) (Y m D H I S : Nat) (h : IsAt sec Y m D H I S) (hY : 1980 ≤ Y) :
    Calls Tryd.prog 12 #[.int .i64 sec, .bool true] w (CmdT 0 (clockB Y m D H I S) w) := by
  have HO := fun w => ref03_Of_at sec Y m w h.hin
  rw [h.eq] at HO
  replace HO := fun w => Lib.hid (HO w)
  obtain ⟨er, hE⟩ : ∃ er, Hid (sentErr (clockB Y m D H I S) = er) := ⟨_, Lib.hid rfl⟩
  obtain ⟨L, hL⟩ : ∃ L, Hid (sentRow (clockB Y m D H I S) = L) := ⟨_, Lib.hid rfl⟩
  have HS := fun w => ref11_Sentence (clockB Y m D H I S) w (by rw [clockB_size]; decide)
  rw [hE.out, hL.out] at HS
  have hB := Lib.hid (show clockB Y m D H I S = (⟨#[71, 80, 90, 68, 65, 44]⟩ : ByteArray) ++ (digB 2 H ++ digB 2 I ++ digB 2 S) ++ (⟨#[44]⟩ : ByteArray) ++ digB 2 D ++ (⟨#[44]⟩ : ByteArray) ++ digB 2 m ++ (⟨#[44]⟩ : ByteArray) ++ digB 4 Y ++ (⟨#[44, 48, 48, 44, 48, 48]⟩ : ByteArray) from rfl)
  rw [hB.out, dig_three H I S (by have := h.hh; omega) (by have := h.hi; omega) (by have := h.hs; omega)] at HS
  replace HS := fun w => Lib.hid (HS w)
  have E6 : DigR sec ((H : Int) * 10000 + (I : Int) * 100 + (S : Int)) 6 (digB 6 (H * 10000 + I * 100 + S)) := ⟨H * 10000 + I * 100 + S, 6, by omega, rfl, by have := h.hh; have := h.hi; have := h.hs; omega, by decide, rfl⟩
  have ED : DigR sec (D : Nat) 2 (digB 2 D) := ⟨D, 2, rfl, rfl, by have := h.hd; omega, by decide, rfl⟩
  have Em : DigR sec (m : Nat) 2 (digB 2 m) := ⟨m, 2, rfl, rfl, by have := h.hm; omega, by decide, rfl⟩
  have E4 : DigR sec (Y : Nat) 4 (digB 4 Y) := ⟨Y, 4, rfl, rfl, by have := h.hy; omega, by decide, rfl⟩
  have HD := fun (V : World) {n k : Int} {s : ByteArray} (hs : DigR sec n k s) => Lib.hid (digits_r V hs)
  have b1 : (0 : Int) ≤ H ∧ (H : Int) < 24 := by have := h.hh; omega
  have b2 : (0 : Int) ≤ I ∧ (I : Int) < 60 := by have := h.hi; omega
  have b3 : (0 : Int) ≤ S ∧ (S : Int) < 60 := by have := h.hs; omega
  have w1 : IntKind.i64.wrap ((H : Int) * 10000) = (H : Int) * 10000 := IntWalk.i64_in _ (by omega)
  have w2 : IntKind.i64.wrap ((I : Int) * 100) = (I : Int) * 100 := IntWalk.i64_in _ (by omega)
  have w3 : IntKind.i64.wrap ((H : Int) * 10000 + (I : Int) * 100) = (H : Int) * 10000 + (I : Int) * 100 := IntWalk.i64_in _ (by omega)
  have w4 : IntKind.i64.wrap ((H : Int) * 10000 + (I : Int) * 100 + (S : Int)) = (H : Int) * 10000 + (I : Int) * 100 + (S : Int) := IntWalk.i64_in _ (by omega)
  have c1 : ¬ (Y : Int) < 1980 := by omega
  have c2 : ¬ (2199 : Int) < Y := by have := h.hy; omega
  rw [cmdT_ok, hE.out, hL.out]
  have z1 := digB_size 6 (H * 10000 + I * 100 + S)
  have z2 := digB_size 2 D
  have z3 := digB_size 2 m
  have z4 := digB_size 4 Y
  clear hE hL hB
  generalize digB 6 (H * 10000 + I * 100 + S) = T at *
  generalize digB 2 D = A at *
  generalize digB 2 m = B at *
  generalize digB 4 Y = C at *
  have j1 : ¬ 9223372036854775807 < 6 + T.size := by omega
  have j2 : ¬ 9223372036854775807 < 6 + T.size + 1 := by omega
  have j3 : ¬ 9223372036854775807 < 6 + T.size + 1 + A.size := by omega
  have j4 : ¬ 9223372036854775807 < 6 + T.size + 1 + A.size + 1 := by omega
  have j5 : ¬ 9223372036854775807 < 6 + T.size + 1 + A.size + 1 + B.size := by omega
  have j6 : ¬ 9223372036854775807 < 6 + T.size + 1 + A.size + 1 + B.size + 1 := by omega
  have j7 : ¬ 9223372036854775807 < 6 + T.size + 1 + A.size + 1 + B.size + 1 + C.size := by omega
  have j8 : ¬ 9223372036854775807 < 6 + T.size + 1 + A.size + 1 + B.size + 1 + C.size + 6 := by omega
  clear h hY z1 z2 z3 z4
  go_enter Tryd.func12, Tryd.ntmps12
  go_upto_region 2 with (go_at_call 23; refine (HO _).out.mono ?_; rintro e w1 ⟨rfl, g1⟩)
  obtain ⟨W, hW, g0, x⟩ := six_new w1 (.int .i64 (Y : Nat)) (.int .i64 (m : Nat)) (.int .i64 (D : Nat)) (.int .i64 (H : Nat)) (.int .i64 (I : Nat)) (.int .i64 (S : Nat)) 45
  rw [hW]
  clear hW
  have G := g1.trans g0
  have KS : ∀ w', Grew W w' → w'.cell? ⟨w1.heap.size, 0, none⟩ = some (.int .i64 (Y : Nat)) ∧ w'.cell? ⟨w1.heap.size, 1, none⟩ = some (.int .i64 (m : Nat)) ∧ w'.cell? ⟨w1.heap.size, 2, none⟩ = some (.int .i64 (D : Nat)) ∧ w'.cell? ⟨w1.heap.size, 3, none⟩ = some (.int .i64 (H : Nat)) ∧ w'.cell? ⟨w1.heap.size, 4, none⟩ = some (.int .i64 (I : Nat)) ∧ w'.cell? ⟨w1.heap.size, 5, none⟩ = some (.int .i64 (S : Nat)) := fun w' g => (x.grew g).2
  obtain ⟨_, x0, x1, x2, x3, x4, x5⟩ := x
  clear HO g1 g0
  have GW := Lib.hid (Grew.refl W)
  go_upto_region 6 with fail
  go_region_held3 (fun w' => w'.cell? ⟨w1.heap.size, 0, none⟩ = some (.int .i64 (Y : Nat)) ∧ w'.cell? ⟨w1.heap.size, 1, none⟩ = some (.int .i64 (m : Nat)) ∧ w'.cell? ⟨w1.heap.size, 2, none⟩ = some (.int .i64 (D : Nat)) ∧ w'.cell? ⟨w1.heap.size, 3, none⟩ = some (.int .i64 (H : Nat)) ∧ w'.cell? ⟨w1.heap.size, 4, none⟩ = some (.int .i64 (I : Nat)) ∧ w'.cell? ⟨w1.heap.size, 5, none⟩ = some (.int .i64 (S : Nat))) (exact KS _ (by repeat (first | (with_reducible exact GW.out) | (with_reducible refine Grew.drew ?_))))
    (first
    | (go_at_call 19; refine (HD _ (by first | exact E6 | exact ED | exact Em | exact E4)).out.mono ?_; rintro e w3 ⟨rfl, g3⟩; replace GW := Lib.hid (Grew.trans (a := W) (by repeat (first | (with_reducible exact GW.out) | (with_reducible refine Grew.drew ?_))) g3))
    | (go_at_call 6; refine (HS _).out.mono ?_; rintro e w9 ⟨v, rfl, hrow, g9⟩; replace GW := Lib.hid (Grew.trans (a := W) (by repeat (first | (with_reducible exact GW.out) | (with_reducible refine Grew.drew ?_))) g9)))
  all_goals
    go_wp2_with fail
    go_ret2
    exact ⟨v, rfl, hrow, G.trans GW.out⟩
end Go.Proofs.YtlcmjedbdopglaaDoor
