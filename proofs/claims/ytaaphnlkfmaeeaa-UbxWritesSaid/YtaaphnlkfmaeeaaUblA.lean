/-
  The laws of UBX messages: the page's examples; a payload read.
-/
import Derived.Test.YtaaphnlkfmaeeaaUbpE
import Derived.Test.YtaaphnlkfmaeeaaUbrF
namespace Go.Proofs.Ytaaphnlkfmaeeaa
open Go.RowKit
set_option linter.unusedVariables false

theorem in64_lit {zs : List Int} (h : zs.all (fun z => decide (-9223372036854775808 ≤ z ∧ z ≤ 9223372036854775807)) = true) : In64 zs := fun i => by
  by_cases hi : i < zs.length
  · have := List.all_eq_true.1 h zs[i] (List.getElem_mem hi)
    rw [zi_lt hi]
    simpa using this
  · unfold zi
    rw [List.getD_eq_getElem?_getD, List.getElem?_eq_none (by omega)]
    simp
theorem ubxDec_len (c : Nat) (S : List Nat) : (ubxDec c S).1.length ≤ 12 := by
  have := (ubx_layOk c).even
  unfold ubxDec
  split
  · simp
  · split
    · simp
    · show (valsTo _ _ _).length ≤ 12; rw [valsTo_length]; omega
theorem exA : ubxEnc (5 * 256 + 1) [6, 1] = ([181, 98, 5, 1, 2, 0, 6, 1, 15, 56], 0) := by kernel_rfl
theorem exB : ubxEnc (6 * 256 + 1) [1, 7, 1] = ([181, 98, 6, 1, 3, 0, 1, 7, 1, 19, 81], 0) := by kernel_rfl
theorem exC : ubxDec (5 * 256 + 1) [1] = ([], 5) := by kernel_rfl
theorem exD : ubxDec (5 * 256 + 2) [1] = ([], 7) := by kernel_rfl
theorem strA : strOf [181, 98, 5, 1, 2, 0, 6, 1, 15, 56] = ⟨#[181, 98, 5, 1, 2, 0, 6, 1, 15, 56]⟩ := by kernel_rfl
theorem strB : strOf [181, 98, 6, 1, 3, 0, 1, 7, 1, 19, 81] = ⟨#[181, 98, 6, 1, 3, 0, 1, 7, 1, 19, 81]⟩ := by kernel_rfl
-- [KNOWN
theorem known_a (w : World) : Calls Try.prog 12 #[.agg #[.int .u8 5, .int .u8 1, .slice (some ⟨w.heap.size, 0, none⟩) 2 2]] (w.alloc (.cells #[.int .i64 6, .int .i64 1] 2)) fun e w' => ∃ A c, e = .returned (.tuple #[.slice A 10 c, .int .i64 0]) ∧ Row .u8 w' (.slice A 10 c) [181, 98, 5, 1, 2, 0, 6, 1, 15, 56] ∧ Grew w w' := by
  have h := ubp_Encode 5 1 (.slice (some ⟨w.heap.size, 0, none⟩) 2 2) [6, 1] (w.alloc (.cells #[.int .i64 6, .int .i64 1] 2)) (by decide) (by decide) (row_litZ' _ _ _ _ _ _ _ rfl rfl) (in64_lit (by decide)) (by decide)
  rw [exA] at h
  refine h.mono ?_
  rintro e w' ⟨v, rfl, hr, _, g⟩
  obtain ⟨A, c, rfl, _⟩ := hr.form
  exact ⟨A, c, rfl, hr, ((Grew.refl w).alloc _).trans g⟩
theorem known_b (w : World) : Calls Try.prog 12 #[.agg #[.int .u8 6, .int .u8 1, .slice (some ⟨w.heap.size, 0, none⟩) 3 3]] (w.alloc (.cells #[.int .i64 1, .int .i64 7, .int .i64 1] 2)) fun e w' => ∃ A c, e = .returned (.tuple #[.slice A 11 c, .int .i64 0]) ∧ Row .u8 w' (.slice A 11 c) [181, 98, 6, 1, 3, 0, 1, 7, 1, 19, 81] ∧ Grew w w' := by
  have h := ubp_Encode 6 1 (.slice (some ⟨w.heap.size, 0, none⟩) 3 3) [1, 7, 1] (w.alloc (.cells #[.int .i64 1, .int .i64 7, .int .i64 1] 2)) (by decide) (by decide) (row_litZ' _ _ _ _ _ _ _ rfl rfl) (in64_lit (by decide)) (by decide)
  rw [exB] at h
  refine h.mono ?_
  rintro e w' ⟨v, rfl, hr, _, g⟩
  obtain ⟨A, c, rfl, _⟩ := hr.form
  exact ⟨A, c, rfl, hr, ((Grew.refl w).alloc _).trans g⟩
theorem known_c (w : World) : Calls Try.prog 7 #[.int .u8 5, .int .u8 1, .slice (some ⟨w.heap.size, 0, none⟩) 1 1] (w.alloc (.cells #[.int .u8 1] 5)) fun e w' => ∃ A c, e = .returned (.tuple #[.agg #[.int .u8 0, .int .u8 0, .slice A 0 c], .int .i64 5]) ∧ Grew w w' := by
  have h := ubp_Decode 5 1 (.slice (some ⟨w.heap.size, 0, none⟩) 1 1) [1] (w.alloc (.cells #[.int .u8 1] 5)) (by decide) (by decide) (own_litU (B := 0) w 5 #[.int .u8 1] [1] 1 (Nat.zero_le _) rfl rfl (by decide)).row (Bytes.of_mem (by simp)) (by decide)
  rw [exC] at h
  refine h.mono ?_
  rintro e w' ⟨v, rfl, hr, _, g⟩
  obtain ⟨A, c, rfl, _⟩ := hr.form
  exact ⟨A, c, rfl, ((Grew.refl w).alloc _).trans g⟩
theorem known_d (w : World) : Calls Try.prog 7 #[.int .u8 5, .int .u8 2, .slice (some ⟨w.heap.size, 0, none⟩) 1 1] (w.alloc (.cells #[.int .u8 1] 5)) fun e w' => ∃ A c, e = .returned (.tuple #[.agg #[.int .u8 0, .int .u8 0, .slice A 0 c], .int .i64 7]) ∧ Grew w w' := by
  have h := ubp_Decode 5 2 (.slice (some ⟨w.heap.size, 0, none⟩) 1 1) [1] (w.alloc (.cells #[.int .u8 1] 5)) (by decide) (by decide) (own_litU (B := 0) w 5 #[.int .u8 1] [1] 1 (Nat.zero_le _) rfl rfl (by decide)).row (Bytes.of_mem (by simp)) (by decide)
  rw [exD] at h
  refine h.mono ?_
  rintro e w' ⟨v, rfl, hr, _, g⟩
  obtain ⟨A, c, rfl, _⟩ := hr.form
  exact ⟨A, c, rfl, ((Grew.refl w).alloc _).trans g⟩
set_option maxRecDepth 100000 in
set_option maxHeartbeats 2000000 in
theorem law_known12 (w : World) : Calls Try.prog 6 #[] w fun e w' => e = .returned (.bool true) ∧ Grew w w' := by
  have HA := fun w => Lib.hid (known_a w)
  have HB := fun w => Lib.hid (known_b w)
  have HC := fun w => Lib.hid (known_c w)
  have HD := fun w => Lib.hid (known_d w)
  go_enter Try.func6, Try.ntmps6
  go_upto_region 2 with (go_at_call 12; refine (HA _).out.mono ?_; rintro e w1 ⟨A1, c1, rfl, r1, g1⟩)
  have G1 := Lib.hid g1
  have R1 := Lib.hid r1
  clear g1 r1 HA
  go_upto_region 3 with (go_at_call 12; refine (HB _).out.mono ?_; rintro e w2 ⟨A2, c2, rfl, r2, g2⟩)
  have G2 := Lib.hid (G1.out.trans g2)
  have R1 := Lib.hid (R1.out.grew g2)
  have R2 := Lib.hid r2
  clear g2 r2 HB
  go_upto_region 4 with (go_at_call 7; refine (HC _).out.mono ?_; rintro e w3 ⟨A3, c3, rfl, g3⟩)
  obtain ⟨V3, hV3, k3, _⟩ := three_new w3 (.int .u8 0) (.int .u8 0) (.slice A3 0 c3) 26
  rw [hV3]
  have G3 := Lib.hid (G2.out.trans (g3.trans k3))
  have R1 := Lib.hid (R1.out.grew (g3.trans k3))
  have R2 := Lib.hid (R2.out.grew (g3.trans k3))
  clear g3 k3 hV3 HC
  go_upto_region 5 with (go_at_call 7; refine (HD _).out.mono ?_; rintro e w4 ⟨A4, c4, rfl, g4⟩)
  obtain ⟨V4, hV4, k4, _⟩ := three_new w4 (.int .u8 0) (.int .u8 0) (.slice A4 0 c4) 26
  rw [hV4]
  have G4 := Lib.hid (G3.out.trans (g4.trans k4))
  have q1 := Row.string _ (R1.out.grew (g4.trans k4)) 22 5 Try.underlying22 Try.underlying5 9 Try.underlying9
  have q2 := Row.string _ (R2.out.grew (g4.trans k4)) 22 5 Try.underlying22 Try.underlying5 9 Try.underlying9
  rw [strA] at q1
  rw [strB] at q2
  clear g4 k4 hV4 HD R1 R2
  go_wp2_with fail
  go_ret
  exact ⟨by first | rfl | simp, G4.out⟩
-- KNOWN]
-- [READS
set_option maxRecDepth 100000 in
set_option maxHeartbeats 4000000 in
theorem law_UbxReads (a b : Nat) (v : Value) (S : List Nat) (w : World) (ha : a < 256) (hb : b < 256) (hr : Row .u8 w v S) (hB : Bytes S) :
    Calls Try.prog 3 #[.int .u8 (a : Nat), .int .u8 (b : Nat), v] w fun e w' => e = .returned (.bool true) ∧ Grew w w' := by
  have HKN := fun w => Lib.hid (law_known12 w)
  have HR := Lib.hid hr
  obtain ⟨SA, sc, rfl, hsc⟩ := hr.form
  by_cases hbig : 600 < S.length
  · have n1 : (600 : Int) < S.length := by omega
    clear hr
    go_enter Try.func3, Try.ntmps3
    go_wp2_with (go_at_call 6; refine (HKN _).out.mono ?_; rintro e w1 ⟨rfl, g1⟩)
    go_ret
    exact ⟨rfl, g1⟩
  · have n1 : ¬ (600 : Int) < S.length := by omega
    have HP := fun v w hr => ubp_Decode a b v S w ha hb hr hB (by omega)
    have HD := fun v w hr => ref12_Decode a b v S w ha hb hr hB (by omega)
    have hlen := ubxDec_len (a * 256 + b) S
    generalize ubxDec (a * 256 + b) S = r at *
    unfold DecT at HP HD
    generalize r.2 = er at *
    generalize r.1 = zs at *
    generalize (if er = 0 then a else 0 : Nat) = a' at *
    generalize (if er = 0 then b else 0 : Nat) = b' at *
    have HS := fun v1 v2 w' h1 h2 => ref12_Same a' b' a' b' v1 v2 zs zs w' h1 h2 (by omega)
    simp only [decide_true, Bool.and_true] at HS
    replace HP := fun v w hr => Lib.hid (HP v w hr)
    replace HD := fun v w hr => Lib.hid (HD v w hr)
    replace HS := fun v1 v2 w' h1 h2 => Lib.hid (HS v1 v2 w' h1 h2)
    have HO1 := own_litU (B := w.heap.size) w 5 #[] [] 0 (Nat.le_refl _) rfl rfl (by simp [maxLen])
    have HR1 := hr.grew ((Grew.refl w).alloc (.cells #[] 5))
    clear hr
    go_enter Try.func3, Try.ntmps3
    go_upto_region 4 with (refine wpList_joinN _ rfl _ _ 22 rfl w.heap.size 5 .u8 1 Try.underlying22 infoU8 (.slice (some ⟨w.heap.size, 0, none⟩) 0 0) _ rfl HO1 _ S rfl HR1 (by simp only [List.length_nil]; omega) (by decide) (by simp) ?_; intro v1 w1 hown hgrow hnil)
    have G1 := Lib.hid (Grew.pushN ((Grew.refl w).alloc (.cells #[] 5)) HO1 (Nat.le_refl _) hgrow)
    rw [List.nil_append] at hown
    have hrow1 := hown.row
    obtain ⟨A1, c1, rfl, _⟩ := hrow1.form
    have R1 := Lib.hid hrow1
    have HP1 := HP _ _ hrow1
    clear hown hgrow hnil HO1 HR1 hrow1 HP
    go_upto_region 5 with (go_at_call 7; refine HP1.out.mono ?_; rintro e w2 ⟨u1, rfl, k1, _, g2⟩; obtain ⟨UA1, uc1, rfl, _⟩ := k1.form)
    obtain ⟨V2, hV2, gV2, T2⟩ := three_new w2 (.int .u8 (a' : Nat)) (.int .u8 (b' : Nat)) (.slice UA1 zs.length uc1) 26
    rw [hV2]
    have G2 := Lib.hid (G1.out.trans (g2.trans gV2))
    have R2 := Lib.hid (R1.out.grew (g2.trans gV2))
    have K2 := Lib.hid (k1.grew gV2)
    have HD1 := HD _ _ (HR.out.grew G2.out)
    clear k1 hV2 HP1 R1 HD
    go_upto_region 6 with (go_at_call 8; refine HD1.out.mono ?_; rintro e w3 ⟨u2, rfl, k3, _, g3⟩; obtain ⟨UA2, uc2, rfl, _⟩ := k3.form)
    obtain ⟨V3, hV3, gV3, T3⟩ := three_new w3 (.int .u8 (a' : Nat)) (.int .u8 (b' : Nat)) (.slice UA2 zs.length uc2) 26
    rw [hV3]
    have G3 := Lib.hid (G2.out.trans (g3.trans gV3))
    have R3 := Lib.hid (R2.out.grew (g3.trans gV3))
    have K3 := Lib.hid (k3.grew gV3)
    have K2' := Lib.hid (K2.out.grew (g3.trans gV3))
    have HS1 := HS _ _ V3 K2'.out K3.out
    obtain ⟨_, x0, x1, x2, _, _, _⟩ := T2.grew (g3.trans gV3)
    obtain ⟨_, y0, y1, y2, _, _, _⟩ := T3
    have HC1 := fun w' (g : Grew V3 w') => Lib.hid (Row.string _ (R3.out.grew g) 22 5 Try.underlying22 Try.underlying5 9 Try.underlying9)
    have HC2 := fun w' (g : Grew V3 w') => Lib.hid (Row.string _ (HR.out.grew (G3.out.trans g)) 22 5 Try.underlying22 Try.underlying5 9 Try.underlying9)
    clear k3 hV3 HD1 R2 K2 HS T2
    go_wp2_with (first
      | (go_at_call 9; refine HS1.out.mono ?_; rintro e w4 ⟨rfl, g4⟩; have q1 := (HC1 _ g4).out; have q2 := (HC2 _ g4).out)
      | (go_at_call 6; refine (HKN _).out.mono ?_; rintro e w5 ⟨rfl, g5⟩))
    go_ret
    exact ⟨by simp, (G3.out.trans g4).trans g5⟩
-- READS]
end Go.Proofs.Ytaaphnlkfmaeeaa
